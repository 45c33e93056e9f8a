import Derived.Test.YtnaejfoighmfeaaM1
import Derived.Laws.BitsAllLaws
import Derived.Lib.Bits
import Derived.Test.YtnaejfoighmfeaaChecked
import GoSem.Claim
import GoSem.ClaimJoined
import GoSem.ClaimMapViews
import Derived.JoinedTies
import Derived.KernelRfl
import Derived.WalkKit
import Derived.ProofKit
import Derived.Below
import Derived.Deep.QuietTactic
import Derived.BigQuiet
import Derived.Lib.SlBytesConst
import Derived.Laws.BytesArg
import Derived.Laws.MakeOwn
import Derived.Deep.RegionHeld3
import Derived.Laws.AppendOwnNone
import Derived.BigFrame
import Derived.OpenShut
import Derived.ChangeOld
import Derived.SizedLaws
import Derived.Deep.DeepHandedRow
import Derived.Lib.LaidTab
import Derived.Deep.OwnRows
import Derived.Deep.RegionWith
import Derived.Deep.Slices
import Derived.Deep.Strs
import Derived.Deep.LoopGhost
import Derived.Lib.ConvBytes
import Derived.Deep.RegionLaw
import Derived.Deep.CutRange
import Derived.Lib.SliceRun
import Derived.WalkLawsBesides
import Derived.Maps.AppendAt
import Derived.Deep.MidRow
import Derived.Defers
import Derived.Recover
import Derived.Deep.Cut
import Derived.ChangeMaps5
namespace Go.Proofs.Ytnaejfoighmfeaa
open Go.ChangeShapes Go.WideShapes Go.ChangeAt Go.RowKit
set_option maxRecDepth 100000
set_option linter.unusedVariables false
def Inv (s o:Nat) (sv:Value) (k:Int) (l:List Int) (j:Nat) (v:Value) (w wr:World):Prop :=
 Below s w wr∧o < wr.heap.size∧(wr.cell? ⟨s,0,none⟩=some (.slice none 0 0)∧wr.cell? ⟨s,1,none⟩=some (.slice none 0 0)∧wr.frozen? ⟨s,0,none⟩=false∧wr.frozen? ⟨s,1,none⟩=false) ∧
 (wr.cell? ⟨o,0,none⟩=some sv∧wr.cell? ⟨o,1,none⟩=some v∧wr.frozen? ⟨o,0,none⟩=false∧wr.frozen? ⟨o,1,none⟩=false)∧wr.ownsRow (o+1) 84 3 v j (rowF k l j)
theorem frozen_set (w:World) (a b:Addr) (v:Value) (h:w.frozen? b=false):(w.setCell a v).frozen? b=false:=by
 simpa using h
theorem inv_step {s o:Nat} {sv:Value} {k:Int} {l:List Int} {j:Nat} {v v':Value} {w wr w1:World} (so:s < o) (h:Inv s o sv k l j v w wr) (hb:Below (o+1) wr w1) (hown:w1.ownsRow (o+1) 84 3 v' (j+1) (rowF k l (j+1))):Inv s o sv k l (j+1) v' w (w1.setCell ⟨o,1,none⟩ v'):=by
 obtain ⟨h1,h2,⟨c0,c1,c2,c3⟩,⟨d0,d1,d2,d3⟩,-⟩:=h
 have e0:w1.cell? ⟨o,0,none⟩=some sv:=(hb.cell (p:=⟨o,0,none⟩) (by show o < _; omega)).trans d0
 have e1:w1.cell? ⟨o,1,none⟩=some v:=(hb.cell (p:=⟨o,1,none⟩) (by show o < _; omega)).trans d1
 refine ⟨(h1.trans (hb.mono (by omega))).setCell (p:=⟨o,1,none⟩) (by show s≤o; omega) _,?_,⟨?_,?_,?_,?_⟩,⟨?_,?_,?_,?_⟩,ownsRow_setCell_below hown (a:=⟨o,1,none⟩) (by show o < _; omega) _⟩
 ·have:(w1.setCell ⟨o,1,none⟩ v').heap.size=w1.heap.size:=by simp
  rw [this]; exact Nat.lt_of_lt_of_le h2 hb.size
 ·exact cell_apart (p:=⟨s,0,none⟩) (q:=⟨o,1,none⟩) (by show s ≠ o; omega) _ ((hb.cell (p:=⟨s,0,none⟩) (by show s < _; omega)).trans c0)
 ·exact cell_apart (p:=⟨s,1,none⟩) (q:=⟨o,1,none⟩) (by show s ≠ o; omega) _ ((hb.cell (p:=⟨s,1,none⟩) (by show s < _; omega)).trans c1)
 ·exact frozen_set _ _ _ _ ((hb.frozen (p:=⟨s,0,none⟩) (by show s < _; omega)).trans c2)
 ·exact frozen_set _ _ _ _ ((hb.frozen (p:=⟨s,1,none⟩) (by show s < _; omega)).trans c3)
 ·rw [World.cell?_setCell_other _ _ _ _ (by simp)]; exact e0
 ·exact World.cell?_setCell_same' _ _ _ (by rw [e1]; rfl)
 ·exact frozen_set _ _ _ _ ((hb.frozen (p:=⟨o,0,none⟩) (by show o < _; omega)).trans d2)
 ·exact frozen_set _ _ _ _ ((hb.frozen (p:=⟨o,1,none⟩) (by show o < _; omega)).trans d3)
theorem info33':∃ i,Try.prog.info? 84=some i∧i.zero=some (.agg #[.int .i64 0,.int .i64 0,.slice none 0 0])∧i.size=3∧i.bytes=40:=by
 obtain ⟨i,hi,hzz⟩:=Option.map_eq_some_iff.1 info33
 simp only [Prod.mk.injEq] at hzz
 exact ⟨i,hi,hzz.1,hzz.2.1,hzz.2.2⟩
theorem owns_drew {w:World} {base e size n:Nat} {v:Value} {xs:List Value} (h:w.ownsRow base e size v n xs):w.drew.ownsRow base e size v n xs:=h
set_option maxHeartbeats 4000000 in
theorem rnums_any {lo:Nat} (n:Nat) (l:List Int) (a:Option Addr) (cap:Nat) (w:World) (R:Row lo w a l) (hl:l.length≤16384) :
  Calls Try.prog 75 #[.slice a l.length cap] w fun e w'=>GivesA (n+1) (numsA l) w e w':=by
 obtain ⟨i0,hi,hz0,hz1,hz2⟩:=info33'
 have hrow:=@row_at _ _ _ _ R
 clear R
 have b1:Below w.heap.size w ((w.alloc (.cells #[.slice none 0 0,.slice none 0 0] 36)).alloc (.cells #[.int .i64 (l.length:Int)] 3)):=two_allocs _ _ _
 have s1:=size_two w (.cells #[.slice none 0 0,.slice none 0 0] 36) (.cells #[.int .i64 (l.length:Int)] 3)
 have HST:Hid (Inv w.heap.size (w.heap.size+2) (.slice (some ⟨w.heap.size+1,0,none⟩) 1 1) 0 l 0 (.slice none 0 0) w (((w.alloc (.cells #[.slice none 0 0,.slice none 0 0] 36)).alloc (.cells #[.int .i64 (l.length:Int)] 3)).alloc (.cells #[.slice (some ⟨w.heap.size+1,0,none⟩) 1 1,.slice none 0 0] 36))):=by
  have g:=fun (b i:Nat) (v:Value) (hb:b < w.heap.size+2) (h:((w.alloc (.cells #[.slice none 0 0,.slice none 0 0] 36)).alloc (.cells #[.int .i64 (l.length:Int)] 3)).cell? ⟨b,i,none⟩=some v)=>((one_alloc _ (.cells #[.slice (some ⟨w.heap.size+1,0,none⟩) 1 1,.slice none 0 0] 36)).cell (p:=⟨b,i,none⟩) (by rw [s1]; exact hb)).trans h
  have gf:∀ i,(((w.alloc (.cells #[.slice none 0 0,.slice none 0 0] 36)).alloc (.cells #[.int .i64 (l.length:Int)] 3)).alloc (.cells #[.slice (some ⟨w.heap.size+1,0,none⟩) 1 1,.slice none 0 0] 36)).frozen? ⟨w.heap.size,i,none⟩=false:=fun i =>
   (((two_allocs (w.alloc (.cells #[.slice none 0 0,.slice none 0 0] 36)) (.cells #[.int .i64 (l.length:Int)] 3) (.cells #[.slice (some ⟨w.heap.size+1,0,none⟩) 1 1,.slice none 0 0] 36)).frozen (p:=⟨w.heap.size,i,none⟩) (by simp))).trans (frozen_new w _ 36 i)
  have n0:=cell_new0 ((w.alloc (.cells #[.slice none 0 0,.slice none 0 0] 36)).alloc (.cells #[.int .i64 (l.length:Int)] 3)) #[.slice (some ⟨w.heap.size+1,0,none⟩) 1 1,.slice none 0 0] 36 0 _ rfl
  have n1:=cell_new0 ((w.alloc (.cells #[.slice none 0 0,.slice none 0 0] 36)).alloc (.cells #[.int .i64 (l.length:Int)] 3)) #[.slice (some ⟨w.heap.size+1,0,none⟩) 1 1,.slice none 0 0] 36 1 _ rfl
  have nf:=fun i=>frozen_new ((w.alloc (.cells #[.slice none 0 0,.slice none 0 0] 36)).alloc (.cells #[.int .i64 (l.length:Int)] 3)) #[.slice (some ⟨w.heap.size+1,0,none⟩) 1 1,.slice none 0 0] 36 i
  rw [s1] at n0 n1 nf
  refine ⟨b1.trans ((one_alloc _ _).mono (by rw [s1]; omega)),by simp,⟨g _ _ _ (by omega) (cell_new1 w _ 36 (0,0) _ 0 _ rfl),g _ _ _ (by omega) (cell_new1 w _ 36 (0,0) _ 1 _ rfl),gf 0,gf 1⟩,⟨n0,n1,nf 0,nf 1⟩,?_⟩
  exact World.ownsRow_nil _ _ _ _
 have HLEN:Hid ((((w.alloc (.cells #[.slice none 0 0,.slice none 0 0] 36)).alloc (.cells #[.int .i64 (l.length:Int)] 3)).alloc (.cells #[.slice (some ⟨w.heap.size+1,0,none⟩) 1 1,.slice none 0 0] 36)).cell? ⟨w.heap.size+1,0,none⟩=some (.int .i64 (l.length:Int))) :=
  ((one_alloc _ (.cells #[.slice (some ⟨w.heap.size+1,0,none⟩) 1 1,.slice none 0 0] 36)).cell (p:=⟨w.heap.size+1,0,none⟩) (by rw [s1]; show w.heap.size+1 < _; omega)).trans (cell_new2 w #[.int .i64 (l.length:Int)] 3 (0,0) (.cells #[.slice none 0 0,.slice none 0 0] 36) 0 _ rfl)
 clear b1 s1
 go_enter Try.func75,Try.ntmps75
 go_wp2
 go_loopw [4] (fun i wr=>∃ (j:Nat) (v:Value),j≤l.length∧i=.int .i64 (j:Int)∧Inv w.heap.size (w.heap.size+2) (.slice (some ⟨w.heap.size+1,0,none⟩) 1 1) 0 l j v w wr∧wr.cell? ⟨w.heap.size+1,0,none⟩=some (.int .i64 (l.length:Int))) (fun i _=>l.length - (intOf i).toNat)
 case atStart=>exact ⟨0,_,Nat.zero_le _,rfl,HST.out,HLEN.out⟩
 case round =>
  clear HST HLEN
  obtain ⟨j,v,hj,rfl,hinv,hlen⟩:=hrel
  have HI:=hide hinv
  have HL:=hide hlen
  obtain ⟨hnx,hsz,⟨c0,c1,c2,c3⟩,⟨d0,d1,d2,d3⟩,hown⟩:=hinv
  by_cases hlt:j < l.length
  ·obtain ⟨b,off,ha,hb,hck⟩:=hrow hlt
   subst ha
   have hc1:wr.cell? ⟨b,off+j,none⟩=some (.int .i64 (l[j]?.getD 0)):=(hnx.cell (p:=⟨b,off+j,none⟩) hb).trans hck
   have hc2:∀ o,(wr.drew.alloc o).cell? ⟨w.heap.size+2,1,none⟩=some v:=fun o=>((one_alloc wr.drew o).cell (p:=⟨w.heap.size+2,1,none⟩) hsz).trans d1
   have HSTEP:=hide (rowF_step 0 l j hlt)
   generalize l[j]?.getD 0=z at *
   have HOWN:=hide ((owns_drew hown).alloc (.cells #[.int .i64 0,.int .i64 z,.slice none 0 0] 84))
   have HNEWS:Hid (∀ i u,[Value.int .i64 0,.int .i64 z,.slice none 0 0][i]?=some u→(wr.drew.alloc (.cells #[.int .i64 0,.int .i64 z,.slice none 0 0] 84)).cell? ((⟨wr.heap.size,0,none⟩:Addr).add i)=some u):=by
    intro i u hu
    have ha:(⟨wr.heap.size,0,none⟩:Addr).add i=⟨wr.drew.heap.size,i,none⟩:=by
     unfold Addr.add
     split
     ·subst_vars; rfl
     ·simp
    rw [ha]
    exact cell_new0 wr.drew _ 84 i u (by simpa using hu)
   have HONE:Hid (∀ u ∈ [Value.int .i64 0,.int .i64 z,.slice none 0 0],u.oneCell'=true):=by
    intro u hu
    simp at hu
    rcases hu with rfl | rfl | rfl <;> rfl
   have HMAX:Hid (j+1≤maxLen∧(j+1) * 40≤140737488355328∧w.heap.size+2+1≤(wr.drew.alloc (.cells #[.int .i64 0,.int .i64 z,.slice none 0 0] 84)).heap.size):=by
    refine ⟨by unfold maxLen; omega,by omega,?_⟩
    have:(wr.drew.alloc (.cells #[.int .i64 0,.int .i64 z,.slice none 0 0] 84)).heap.size=wr.heap.size+1:=by simp
    omega
   have HAL:Hid (Below (w.heap.size+2+1) wr (wr.drew.alloc (.cells #[.int .i64 0,.int .i64 z,.slice none 0 0] 84))):=((Below.refl _ _).drew).alloc (by show _≤wr.heap.size; omega) _
   clear hown hck hrow hlen c0 c1 c2 c3 d0 d2 hb hnx
   go_wp2
   go_region_law (refine step_append_own rfl (.tmp 16) (.tmp 22) 34 rfl (w.heap.size+2+1) 84 i0 (.agg #[.int .i64 0,.int .i64 0,.slice none 0 0]) 3 40 Try.underlying34 hi hz0 hz1 hz2 rfl (by decide) v j (rowF 0 l j) rfl HOWN.out ⟨wr.heap.size,0,none⟩ 1 1 [.int .i64 0,.int .i64 z,.slice none 0 0] rfl rfl HNEWS.out HONE.out HMAX.out.1 HMAX.out.2.1 HMAX.out.2.2 ?_; intro v' w1 hown1 hb1; obtain ⟨g,cp,rfl,-⟩:=owns_form hown1 (Nat.succ_pos j); have dd1:=(HAL.out.trans hb1).cell (p:=⟨w.heap.size+2,1,none⟩) (Nat.lt_succ_self _) |>.trans d1; have dd3:=(HAL.out.trans hb1).frozen (p:=⟨w.heap.size+2,1,none⟩) (Nat.lt_succ_self _) |>.trans d3)
   all_goals
    have hown2:w1.ownsRow (w.heap.size+2+1) 84 3 (.slice (some ⟨g,0,none⟩) (j+1) cp) (j+1) (rowF 0 l (j+1)):=by rw [HSTEP.out]; exact hown1
    have HN:=hide (inv_step (by omega) HI.out (HAL.out.trans hb1) hown2)
    have HN2:Hid ((w1.setCell ⟨w.heap.size+2,1,none⟩ (.slice (some ⟨g,0,none⟩) (j+1) cp)).cell? ⟨w.heap.size+1,0,none⟩=some (.int .i64 (l.length:Int))):=cell_apart (p:=⟨w.heap.size+1,0,none⟩) (q:=⟨w.heap.size+2,1,none⟩) (by show w.heap.size+1 ≠ w.heap.size+2; omega) _ (((HAL.out.trans hb1).cell (p:=⟨w.heap.size+1,0,none⟩) (by show w.heap.size+1 < _; omega)).trans HL.out)
    clear hown1 hown2 hb1 dd1 dd3 HOWN HNEWS HONE HMAX HAL HI HL HSTEP
    go_wp2
    go_roundw
    case rel=>exact ⟨j+1,_,by omega,by go_num,HN.out,HN2.out⟩
    case measure=>simp [intOf]; omega
  ·have hje:j=l.length:=by omega
   subst hje
   obtain ⟨a2,cp,rfl,hcs⟩:=owns_cells (n:=n) (lo:=w.heap.size+2+1) 0 l hown (Nat.le_refl _)
   have HF:Hid (∀ x y,ArIn (n+1) w.heap.size ((wr.setCell ⟨w.heap.size,0,none⟩ x).setCell ⟨w.heap.size,1,none⟩ y) (numsA l) (.agg #[.slice (some ⟨w.heap.size+1,0,none⟩) 1 1,.slice a2 l.length cp])):=by
    intro x y
    have hk:Keeps (w.heap.size+1) wr ((wr.setCell ⟨w.heap.size,0,none⟩ x).setCell ⟨w.heap.size,1,none⟩ y):=((Keeps.refl _ _).setCell (p:=⟨w.heap.size,0,none⟩) (by show w.heap.size < _; omega) x).setCell (p:=⟨w.heap.size,1,none⟩) (by show w.heap.size < _; omega) y
    refine arIn_mk (x:=numsA l) ?_ (by simp [numsA,Ar.cells,numCs_len]; omega) ?_ rfl (numCs_len 0 l)
    ·exact ((row_one (lo:=w.heap.size+1) (b:=w.heap.size+1) (by omega) (Nat.le_refl _) HL.out).keeps hk).low (by omega)
    ·exact ((hcs.mono (lo':=w.heap.size+1) (by omega) (Below.refl _ _)).keeps hk).mono (by omega) (Below.refl _ _)
   have HT:=hide (set_two c0 c1 (.slice (some ⟨w.heap.size+1,0,none⟩) 1 1) (.slice a2 l.length cp))
   have HB:=hide hnx
   clear hown hrow hcs HI HL hnx
   go_wp2
   exact bodyPost_ret (v:=.agg #[.slice (some ⟨w.heap.size+1,0,none⟩) 1 1,.slice a2 l.length cp]) (by simp [results,Try.results75,go_sem,HT.out.1,HT.out.2]) rfl ⟨⟨_,rfl,HF.out _ _⟩,(HB.out.setCell (p:=⟨w.heap.size,0,none⟩) (Nat.le_refl _) _).setCell (p:=⟨w.heap.size,1,none⟩) (Nat.le_refl _) _⟩
set_option maxHeartbeats 4000000 in
theorem rtext_any {lo:Nat} (n:Nat) (l:List Int) (a:Option Addr) (cap:Nat) (w:World) (R:Row lo w a l) (hl:l.length≤16384) :
  Calls Try.prog 77 #[.slice a l.length cap] w fun e w'=>GivesA (n+1) (textA l) w e w':=by
 obtain ⟨i0,hi,hz0,hz1,hz2⟩:=info33'
 have hrow:=@row_at _ _ _ _ R
 clear R
 have HST:Hid (Inv w.heap.size (w.heap.size+1) (.slice none 0 0) 1 l 0 (.slice none 0 0) w ((w.alloc (.cells #[.slice none 0 0,.slice none 0 0] 36)).alloc (.cells #[.slice none 0 0,.slice none 0 0] 36))):=by
  have gf:∀ i,((w.alloc (.cells #[.slice none 0 0,.slice none 0 0] 36)).alloc (.cells #[.slice none 0 0,.slice none 0 0] 36)).frozen? ⟨w.heap.size,i,none⟩=false:=fun i =>
   (((one_alloc (w.alloc (.cells #[.slice none 0 0,.slice none 0 0] 36)) (.cells #[.slice none 0 0,.slice none 0 0] 36)).frozen (p:=⟨w.heap.size,i,none⟩) (by simp))).trans (frozen_new w _ 36 i)
  have nf:=fun i=>frozen_new (w.alloc (.cells #[.slice none 0 0,.slice none 0 0] 36)) #[.slice none 0 0,.slice none 0 0] 36 i
  have s1:(w.alloc (.cells #[.slice none 0 0,.slice none 0 0] 36)).heap.size=w.heap.size+1:=by simp
  rw [s1] at nf
  refine ⟨two_allocs _ _ _,by simp,⟨cell_new1 w _ 36 (0,0) _ 0 _ rfl,cell_new1 w _ 36 (0,0) _ 1 _ rfl,gf 0,gf 1⟩,⟨cell_new2 w _ 36 (0,0) _ 0 _ rfl,cell_new2 w _ 36 (0,0) _ 1 _ rfl,nf 0,nf 1⟩,?_⟩
  exact World.ownsRow_nil _ _ _ _
 go_enter Try.func77,Try.ntmps77
 go_wp2
 go_loopw [4] (fun i wr=>∃ (j:Nat) (v:Value),j≤l.length∧i=.int .i64 (j:Int)∧Inv w.heap.size (w.heap.size+1) (.slice none 0 0) 1 l j v w wr) (fun i _=>l.length - (intOf i).toNat)
 case atStart=>exact ⟨0,_,Nat.zero_le _,rfl,HST.out⟩
 case round =>
  clear HST
  obtain ⟨j,v,hj,rfl,hinv⟩:=hrel
  have HI:=hide hinv
  obtain ⟨hnx,hsz,⟨c0,c1,c2,c3⟩,⟨d0,d1,d2,d3⟩,hown⟩:=hinv
  by_cases hlt:j < l.length
  ·obtain ⟨b,off,ha,hb,hck⟩:=hrow hlt
   subst ha
   have hc1:wr.cell? ⟨b,off+j,none⟩=some (.int .i64 (l[j]?.getD 0)):=(hnx.cell (p:=⟨b,off+j,none⟩) hb).trans hck
   have hc2:∀ o,(wr.drew.alloc o).cell? ⟨w.heap.size+1,1,none⟩=some v:=fun o=>((one_alloc wr.drew o).cell (p:=⟨w.heap.size+1,1,none⟩) hsz).trans d1
   have HSTEP:=hide (rowF_step 1 l j hlt)
   generalize l[j]?.getD 0=z at *
   have HOWN:=hide ((owns_drew hown).alloc (.cells #[.int .i64 1,.int .i64 z,.slice none 0 0] 84))
   have HNEWS:Hid (∀ i u,[Value.int .i64 1,.int .i64 z,.slice none 0 0][i]?=some u→(wr.drew.alloc (.cells #[.int .i64 1,.int .i64 z,.slice none 0 0] 84)).cell? ((⟨wr.heap.size,0,none⟩:Addr).add i)=some u):=by
    intro i u hu
    have ha:(⟨wr.heap.size,0,none⟩:Addr).add i=⟨wr.drew.heap.size,i,none⟩:=by
     unfold Addr.add
     split
     ·subst_vars; rfl
     ·simp
    rw [ha]
    exact cell_new0 wr.drew _ 84 i u (by simpa using hu)
   have HONE:Hid (∀ u ∈ [Value.int .i64 1,.int .i64 z,.slice none 0 0],u.oneCell'=true):=by
    intro u hu
    simp at hu
    rcases hu with rfl | rfl | rfl <;> rfl
   have HMAX:Hid (j+1≤maxLen∧(j+1) * 40≤140737488355328∧w.heap.size+1+1≤(wr.drew.alloc (.cells #[.int .i64 1,.int .i64 z,.slice none 0 0] 84)).heap.size):=by
    refine ⟨by unfold maxLen; omega,by omega,?_⟩
    have:(wr.drew.alloc (.cells #[.int .i64 1,.int .i64 z,.slice none 0 0] 84)).heap.size=wr.heap.size+1:=by simp
    omega
   have HAL:Hid (Below (w.heap.size+1+1) wr (wr.drew.alloc (.cells #[.int .i64 1,.int .i64 z,.slice none 0 0] 84))):=((Below.refl _ _).drew).alloc (by show _≤wr.heap.size; omega) _
   clear hown hck hrow c0 c1 c2 c3 d0 d2 hb hnx
   go_wp2
   go_region_law (refine step_append_own rfl (.tmp 13) (.tmp 19) 34 rfl (w.heap.size+1+1) 84 i0 (.agg #[.int .i64 0,.int .i64 0,.slice none 0 0]) 3 40 Try.underlying34 hi hz0 hz1 hz2 rfl (by decide) v j (rowF 1 l j) rfl HOWN.out ⟨wr.heap.size,0,none⟩ 1 1 [.int .i64 1,.int .i64 z,.slice none 0 0] rfl rfl HNEWS.out HONE.out HMAX.out.1 HMAX.out.2.1 HMAX.out.2.2 ?_; intro v' w1 hown1 hb1; obtain ⟨g,cp,rfl,-⟩:=owns_form hown1 (Nat.succ_pos j); have dd1:=(HAL.out.trans hb1).cell (p:=⟨w.heap.size+1,1,none⟩) (Nat.lt_succ_self _) |>.trans d1; have dd3:=(HAL.out.trans hb1).frozen (p:=⟨w.heap.size+1,1,none⟩) (Nat.lt_succ_self _) |>.trans d3)
   all_goals
    have hown2:w1.ownsRow (w.heap.size+1+1) 84 3 (.slice (some ⟨g,0,none⟩) (j+1) cp) (j+1) (rowF 1 l (j+1)):=by rw [HSTEP.out]; exact hown1
    have HN:=hide (inv_step (by omega) HI.out (HAL.out.trans hb1) hown2)
    clear hown1 hown2 hb1 dd1 dd3 HOWN HNEWS HONE HMAX HAL HI HSTEP
    go_wp2
    go_roundw
    case rel=>exact ⟨j+1,_,by omega,by go_num,HN.out⟩
    case measure=>simp [intOf]; omega
  ·have hje:j=l.length:=by omega
   subst hje
   obtain ⟨a2,cp,rfl,hcs⟩:=owns_cells (n:=n) (lo:=w.heap.size+1+1) 1 l hown (Nat.le_refl _)
   have HB:=hide hnx
   by_cases h1:l.length=1
   ·have HF:Hid (∀ x y,ArIn (n+1) w.heap.size ((wr.setCell ⟨w.heap.size,0,none⟩ x).setCell ⟨w.heap.size,1,none⟩ y) (textA l) (.agg #[.slice none 0 0,.slice a2 l.length cp])):=by
     intro x y
     have hk:Keeps (w.heap.size+1) wr ((wr.setCell ⟨w.heap.size,0,none⟩ x).setCell ⟨w.heap.size,1,none⟩ y):=((Keeps.refl _ _).setCell (p:=⟨w.heap.size,0,none⟩) (by show w.heap.size < _; omega) x).setCell (p:=⟨w.heap.size,1,none⟩) (by show w.heap.size < _; omega) y
     have e:textA l=.mk [] (numCs 1 l):=by unfold textA; rw [if_pos h1]
     rw [e]
     refine arIn_mk (x:=.mk [] (numCs 1 l)) (row_nil _ _ _) (by simp [Ar.cells,numCs_len]; omega) ?_ rfl (numCs_len 1 l)
     exact ((hcs.mono (lo':=w.heap.size+1) (by omega) (Below.refl _ _)).keeps hk).mono (by omega) (Below.refl _ _)
    have HT:=hide (set_two c0 c1 (.slice none 0 0) (.slice a2 l.length cp))
    have h1':(l.length:Int)=1:=by omega
    clear hown hrow hcs HI hnx h1
    generalize l.length=LL at *
    go_wp2
    exact bodyPost_ret (v:=.agg #[.slice none 0 0,.slice a2 LL cp]) (by simp [results,Try.results77,go_sem,HT.out.1,HT.out.2]) rfl ⟨⟨_,rfl,HF.out _ _⟩,(HB.out.setCell (p:=⟨w.heap.size,0,none⟩) (Nat.le_refl _) _).setCell (p:=⟨w.heap.size,1,none⟩) (Nat.le_refl _) _⟩
   ·have h1':¬ (l.length:Int)=1:=by omega
    have HF:Hid (∀ x y z,ArIn (n+1) w.heap.size ((((wr.alloc (.cells #[.int .i64 (l.length:Int)] 3)).setCell ⟨w.heap.size+1,0,none⟩ z).setCell ⟨w.heap.size,0,none⟩ x).setCell ⟨w.heap.size,1,none⟩ y) (textA l) (.agg #[.slice (some ⟨wr.heap.size,0,none⟩) 1 1,.slice a2 l.length cp])):=by
     intro x y z
     have hk:Keeps (w.heap.size+2) (wr.alloc (.cells #[.int .i64 (l.length:Int)] 3)) ((((wr.alloc (.cells #[.int .i64 (l.length:Int)] 3)).setCell ⟨w.heap.size+1,0,none⟩ z).setCell ⟨w.heap.size,0,none⟩ x).setCell ⟨w.heap.size,1,none⟩ y):=(((Keeps.refl _ _).setCell (p:=⟨w.heap.size+1,0,none⟩) (by show w.heap.size+1 < _; omega) z).setCell (p:=⟨w.heap.size,0,none⟩) (by show w.heap.size < _; omega) x).setCell (p:=⟨w.heap.size,1,none⟩) (by show w.heap.size < _; omega) y
     have e:textA l=.mk [(l.length:Int)] (numCs 1 l):=by unfold textA; rw [if_neg h1]
     rw [e]
     refine arIn_mk (x:=.mk [(l.length:Int)] (numCs 1 l)) ?_ (by simp [Ar.cells,numCs_len]; omega) ?_ rfl (numCs_len 1 l)
     ·exact ((row_one (lo:=w.heap.size+2) (b:=wr.heap.size) (by simp) (by omega) (cell_new0 wr _ 3 0 _ rfl)).keeps hk).low (by omega)
     ·exact ((hcs.mono (lo':=w.heap.size+2) (by omega) (one_alloc _ _)).keeps hk).mono (by omega) (Below.refl _ _)
    have e0:∀ ob,(wr.alloc ob).cell? ⟨w.heap.size+1,0,none⟩=some (.slice none 0 0):=fun ob=>((one_alloc wr ob).cell (p:=⟨w.heap.size+1,0,none⟩) hsz).trans d0
    have e1:∀ ob,(wr.alloc ob).cell? ⟨w.heap.size+1,1,none⟩=some (.slice a2 l.length cp):=fun ob=>((one_alloc wr ob).cell (p:=⟨w.heap.size+1,1,none⟩) hsz).trans d1
    have e2:∀ ob,(wr.alloc ob).frozen? ⟨w.heap.size+1,0,none⟩=false:=fun ob=>((one_alloc wr ob).frozen (p:=⟨w.heap.size+1,0,none⟩) hsz).trans d2
    have hs0:w.heap.size < wr.heap.size:=by omega
    have e3:∀ ob,(wr.alloc ob).cell? ⟨w.heap.size,0,none⟩=some (.slice none 0 0):=fun ob=>((one_alloc wr ob).cell (p:=⟨w.heap.size,0,none⟩) hs0).trans c0
    have e4:∀ ob,(wr.alloc ob).cell? ⟨w.heap.size,1,none⟩=some (.slice none 0 0):=fun ob=>((one_alloc wr ob).cell (p:=⟨w.heap.size,1,none⟩) hs0).trans c1
    have e5:∀ ob,(wr.alloc ob).frozen? ⟨w.heap.size,0,none⟩=false:=fun ob=>((one_alloc wr ob).frozen (p:=⟨w.heap.size,0,none⟩) hs0).trans c2
    have e6:∀ ob,(wr.alloc ob).frozen? ⟨w.heap.size,1,none⟩=false:=fun ob=>((one_alloc wr ob).frozen (p:=⟨w.heap.size,1,none⟩) hs0).trans c3
    have HB2:Hid (∀ ob x y z,Below w.heap.size w ((((wr.alloc ob).setCell ⟨w.heap.size+1,0,none⟩ z).setCell ⟨w.heap.size,0,none⟩ x).setCell ⟨w.heap.size,1,none⟩ y)):=fun ob x y z=>(((HB.out.alloc HB.out.size ob).setCell (p:=⟨w.heap.size+1,0,none⟩) (by show w.heap.size≤w.heap.size+1; omega) z).setCell (p:=⟨w.heap.size,0,none⟩) (Nat.le_refl _) x).setCell (p:=⟨w.heap.size,1,none⟩) (Nat.le_refl _) y
    clear hown hrow hcs HI hnx h1 c0 c1 c2 c3 d0 d1 d2 d3 hsz
    generalize l.length=LL at *
    have HT:=hide (set_two (w:=(wr.alloc (.cells #[.int .i64 (LL:Int)] 3)).setCell ⟨w.heap.size+1,0,none⟩ (.slice (some ⟨wr.heap.size,0,none⟩) 1 1)) (cell_apart (p:=⟨w.heap.size,0,none⟩) (q:=⟨w.heap.size+1,0,none⟩) (by show w.heap.size ≠ w.heap.size+1; omega) _ (e3 _)) (cell_apart (p:=⟨w.heap.size,1,none⟩) (q:=⟨w.heap.size+1,0,none⟩) (by show w.heap.size ≠ w.heap.size+1; omega) _ (e4 _)) (.slice (some ⟨wr.heap.size,0,none⟩) 1 1) (.slice a2 LL cp))
    go_wp2
    exact bodyPost_ret (v:=.agg #[.slice (some ⟨wr.heap.size,0,none⟩) 1 1,.slice a2 LL cp]) (by simp [results,Try.results77,go_sem,HT.out.1,HT.out.2]) rfl ⟨⟨_,rfl,HF.out _ _ _⟩,HB2.out _ _ _ _⟩
end Go.Proofs.Ytnaejfoighmfeaa
namespace Go.Proofs.Ytnaejfoighmfeaa
open Go.ChangeShapes Go.WideShapes Go.ChangeAt Go.RowKit
set_option linter.unusedVariables false
theorem own:ownKnob Try.prog.godebug=none:=by kernel_rfl
def plsL (l:List Int) (n:Int):List Int:=if sizeE l=0∧0≤n∧n < sizeV l then digits l n else []
def plsE (l:List Int) (n:Int):Int:=if sizeE l=0 then (if 0≤n∧n < sizeV l then 0 else 8) else sizeE l
theorem pls_ok {l:List Int} {n:Int} (h:plsE l n=0):sizeE l=0∧0≤n∧n < sizeV l∧plsL l n=digits l n:=by
 unfold plsE at h
 by_cases hs:sizeE l=0
 ·by_cases ho:0≤n∧n < sizeV l
  ·exact ⟨hs,ho.1,ho.2,by unfold plsL; rw [if_pos ⟨hs,ho⟩]⟩
  ·rw [if_pos hs,if_neg ho] at h; omega
 ·rw [if_neg hs] at h; exact absurd h hs
theorem plc_ok {l m:List Int} (h:plcE l m=0):sizeE l=0∧inAxes l m∧plcV l m=place l m:=by
 unfold plcE at h
 by_cases hs:sizeE l=0
 ·by_cases hl:m.length=l.length
  ·by_cases hi:inAxes l m
   ·exact ⟨hs,hi,by unfold plcV; rw [if_pos ⟨hs,hi⟩]⟩
   ·simp [hs,hl,hi] at h
  ·simp [hs,hl] at h
 ·simp [hs] at h
theorem there {l m:List Int} (h:plcE l m=0):plsE l (plcV l m)=0∧plsL l (plcV l m)=m:=by
 obtain ⟨hs,hi,hv⟩:=plc_ok h
 obtain ⟨b1,b2,b3,b4⟩:=place_bound hi
 obtain ⟨s1,s2,s3⟩:=sizeE_ok hs
 have hz:¬ hasZero l:=by
  rintro ⟨z,hz,e⟩
  have:=b1 z hz
  omega
 rcases s3 with s3 | ⟨-,s4⟩
 ·exact absurd s3 hz
 have sv:sizeV l=prodL l:=(size_ok s1 s2 hz (by omega)).1
 have hr:0≤plcV l m∧plcV l m < sizeV l:=by rw [hv,sv]; exact ⟨b2,b3⟩
 refine ⟨by unfold plsE; rw [if_pos hs,if_pos hr],?_⟩
 unfold plsL
 rw [if_pos ⟨hs,hr⟩,hv]
 exact digits_place hi
theorem back {l:List Int} {n:Int} (h:plsE l n=0):plcE l (plsL l n)=0∧plcV l (plsL l n)=n:=by
 obtain ⟨hs,h0,h1,hL⟩:=pls_ok h
 obtain ⟨s1,s2,s3,s4⟩:=sizeV_in hs h0 h1
 obtain ⟨d1,d2⟩:=digits_in s2 h0 (by omega)
 rw [hL]
 have hl:=digits_length l n
 refine ⟨by unfold plcE; simp [hs,hl,d1],?_⟩
 unfold plcV
 rw [if_pos ⟨hs,d1⟩]
 exact d2
end Go.Proofs.Ytnaejfoighmfeaa
namespace Go.Proofs.Ytnaejfoighmfeaa
open Go.ChangeShapes Go.WideShapes Go.ChangeAt Go.RowKit Go.Deep
set_option maxRecDepth 100000
set_option linter.unusedVariables false
theorem add_off (b off i:Nat):(⟨b,off,none⟩:Addr).add i=⟨b,off+i,none⟩:=by
 unfold Addr.add
 split
 ·subst_vars; rfl
 ·rfl
section
variable {H:Type} {enc:TypeId × Value→H} {W:World} {sp:Nat→Bool} {held:Bool}
end
end Go.Proofs.Ytnaejfoighmfeaa
namespace Go.Proofs.Ytnaejfoighmfeaa
open Go.ChangeShapes Go.WideShapes Go.ChangeAt Go.RowKit
set_option maxRecDepth 100000
set_option linter.unusedVariables false
set_option linter.unusedSimpArgs false
theorem wpList_append_B {P:Program} {w:World} {ops:Array Oper} {rest:List Oper} {o:Oper} {a:Act} {Q:Exit→Act→World→Prop} (hgd:o.guard=none) (s x:Operand) (t:TypeId)
  (ho:o.op=.call { callee:=.builtin .append,args:=#[s,x],argTypes:=#[t,t] })
  (base:Nat) (e:TypeId) (i:TypeInfo) (z:Value) (size bytes:Nat) (ht:P.underlying t=some (.slice e)) (hi:P.info? e=some i) (hz:i.zero=some z)
  (hsize:i.size=size) (hby:i.bytes=bytes) (hzs:z.cells.size=size) (hsz:0 < size)
  (v:Value) (n:Nat) (xs:List Value) (hs:a.eval s=v) (hown:w.ownsRow base e size v n xs)
  (ad:Addr) (m c:Nat) (news:List Value) (hx:a.eval x=.slice (some ad) m c) (hl:news.length=m * size) (hnews:∀ j u,news[j]?=some u→w.cell? (ad.add j)=some u) (h1:∀ u ∈ news,u.oneCell'=true)
  (h63:n+m≤maxLen) (hbytes:(n+m) * bytes≤140737488355328) (hbase:base≤w.heap.size)
  (h:∀ v' w',w'.ownsRow base e size v' (n+m) (xs ++ news)→Below base w w'→wpList P ops Q rest (a.put o.dst v') w'):wpList P ops Q (o :: rest) a w :=
 wpList_append_own w hgd s x t ho base e i z size bytes ht hi hz hsize hby hzs hsz v n xs hs hown ad m c news hx hl hnews h1 h63 hbytes hbase fun v' w' h2 h3 _=>h v' w' h2 ((Below.refl _ _).grown h3 hbase (fun q hq=>(hown.lt q hq).1))
theorem info3':∃ i,Try.prog.info? 3=some i∧i.zero=some (.int .i64 0)∧i.size=1∧i.bytes=8:=by
 obtain ⟨i,hi,hzz⟩:=Option.map_eq_some_iff.1 int3
 simp only [Prod.mk.injEq] at hzz
 exact ⟨i,hi,hzz.1,hzz.2.1,hzz.2.2⟩
theorem part_h {P:Program} {t e:TypeId} {sz:Nat} (ht:P.underlying t=some (.slice e)) (hsz:(P.info? e).map (·.size)=some sz) (a:Option Addr) (n c h:Nat) (kh:Int) (eh:kh=(h:Int)) (h2:h≤c) (W:World) :
  (Instr.sliceAt t (.slice a n c) none (some (.int .i64 kh)) none).run P W=.ok (.slice a h c) W:=by
 subst eh
 have he:P.elem t=e:=by simp [Program.elem,ht]
 have ht':P.underlying t=some (.slice (P.elem t)):=by rw [he]; exact ht
 obtain ⟨i,hi,hs⟩:=Option.map_eq_some_iff.1 hsz
 rw [run_sliceAt_slice W t _ _ _ _ ht',run_slice_h W t a n c ht' .i64 h (by omega) (by omega),he]
 have:(if c=0 then a else a.map (·.add 0))=a:=by
  split
  ·rfl
  ·cases a with
   | none=>rfl
   | some p=>cases p with | mk b o f=>simp [Addr.add]
 simp [sizeOf,typeInfo,hi,hs,sliced,this]
def CloI (ws:List Wo) (j:Nat) (st:List Nat) (f:Nat→Nat):Prop :=
 (∀ k x,st[k]?=some x→x < j∧(wAt ws x).kind=5∧clo 0 (ws.drop x)=addk (j - x) (clo (k+1) (ws.drop j))) ∧
 (∀ i,i < ws.length→f i=cloV ws i ∨ (i ∈ st∧f i=0) ∨ (j≤i∧f i=0))∧st.length≤j
def updN (f:Nat→Nat) (x v:Nat) (i:Nat):Nat:=if i=x then v else f i
theorem clo_start (ws:List Wo):CloI ws 0 [] (fun _=>0):=⟨fun k x h=>by simp at h,fun i _=>Or.inr (Or.inr ⟨Nat.zero_le _,rfl⟩),Nat.le_refl _⟩
theorem clo_push {ws:List Wo} {j:Nat} {st:List Nat} {f:Nat→Nat} (h:CloI ws j st f) (hj:j < ws.length) (hk:(wAt ws j).kind=5):CloI ws (j+1) (j :: st) f:=by
 have hd:∀ d,clo d (ws.drop j)=addk 1 (clo (d+1) (ws.drop (j+1))):=fun d=>by rw [drop_at hj]; simp [clo,hk]
 refine ⟨fun k x hx=>?_,fun i hi=>?_,by have:=h.2.2; simp; omega⟩
 ·cases k with
  | zero =>
   simp at hx
   subst hx
   exact ⟨by omega,hk,by rw [hd]; congr 1; omega⟩
  | succ k =>
   obtain ⟨h1,h2,h3⟩:=h.1 k x (by simpa using hx)
   refine ⟨by omega,h2,?_⟩
   rw [h3,hd,addk_addk]
   congr 1; omega
 ·rcases h.2.1 i hi with h1 | ⟨h1,h2⟩ | ⟨h1,h2⟩
  ·exact Or.inl h1
  ·exact Or.inr (Or.inl ⟨List.mem_cons_of_mem _ h1,h2⟩)
  ·by_cases e:i=j
   ·subst e; exact Or.inr (Or.inl ⟨List.mem_cons_self,h2⟩)
   ·exact Or.inr (Or.inr ⟨by omega,h2⟩)
theorem clo_pop {ws:List Wo} {j x:Nat} {st:List Nat} {f:Nat→Nat} (h:CloI ws j (x :: st) f) (hj:j < ws.length) (hk:(wAt ws j).kind=6):CloI ws (j+1) st (updN f x (j+1)):=by
 have hd:∀ d,clo (d+2) (ws.drop j)=addk 1 (clo (d+1) (ws.drop (j+1))):=fun d=>by rw [drop_at hj]; simp [clo,hk]
 have hd1:clo 1 (ws.drop j)=1:=by rw [drop_at hj]; simp [clo,hk]
 have hx:=h.1 0 x rfl
 refine ⟨fun k y hy=>?_,fun i hi=>?_,by have:=h.2.2; simp at this; omega⟩
 ·obtain ⟨h1,h2,h3⟩:=h.1 (k+1) y (by simpa using hy)
  refine ⟨by omega,h2,?_⟩
  rw [h3,hd,addk_addk]
  congr 1; omega
 ·unfold updN
  by_cases e:i=x
  ·subst e
   left
   rw [if_pos rfl]
   unfold cloV
   rw [if_pos hx.2.1,hx.2.2,hd1]
   simp [addk,enc]
   omega
  ·rw [if_neg e]
   rcases h.2.1 i hi with h1 | ⟨h1,h2⟩ | ⟨h1,h2⟩
   ·exact Or.inl h1
   ·rcases List.mem_cons.1 h1 with h1 | h1
    ·exact absurd h1 e
    ·exact Or.inr (Or.inl ⟨h1,h2⟩)
   ·by_cases e2:i=j
    ·subst e2
     exact Or.inl (by rw [h2]; unfold cloV; rw [if_neg (by omega)])
    ·exact Or.inr (Or.inr ⟨by omega,h2⟩)
theorem clo_stay {ws:List Wo} {j:Nat} {st:List Nat} {f:Nat→Nat} (h:CloI ws j st f) (hj:j < ws.length) (hk:(wAt ws j).kind ≠ 5) (hs:(wAt ws j).kind=6→st=[]):CloI ws (j+1) st f:=by
 refine ⟨fun k x hx=>?_,fun i hi=>?_,by have:=h.2.2; omega⟩
 ·obtain ⟨h1,h2,h3⟩:=h.1 k x hx
  have h6:(wAt ws j).kind ≠ 6:=fun e=>by rw [hs e] at hx; simp at hx
  refine ⟨by omega,h2,?_⟩
  rw [h3,drop_at hj]
  simp only [clo,hk,h6,if_false]
  rw [addk_addk]
  congr 1; omega
 ·rcases h.2.1 i hi with h1 | h1 | ⟨h1,h2⟩
  ·exact Or.inl h1
  ·exact Or.inr (Or.inl h1)
  ·by_cases e2:i=j
   ·subst e2
    exact Or.inl (by rw [h2]; unfold cloV; rw [if_neg hk])
   ·exact Or.inr (Or.inr ⟨by omega,h2⟩)
theorem clo_end {ws:List Wo} {st:List Nat} {f:Nat→Nat} (h:CloI ws ws.length st f) (i:Nat) (hi:i < ws.length):f i=cloV ws i:=by
 rcases h.2.1 i hi with h1 | ⟨h1,h2⟩ | ⟨h1,h2⟩
 ·exact h1
 ·obtain ⟨k,hk,hx⟩:=List.getElem_of_mem h1
  obtain ⟨-,h3,h4⟩:=h.1 k i (by rw [List.getElem?_eq_getElem hk,hx])
  rw [List.drop_length] at h4
  rw [h2]; unfold cloV
  rw [h4,if_pos h3]
  simp [clo,addk,enc]
 ·omega
theorem sz3:(Try.prog.info? 3).map (·.size)=some 1:=by kernel_rfl
theorem mk33 (L:Nat) (h:L≤2000) (w:World):(Instr.makeSlice 33 (.int .i64 (L:Int)) (.int .i64 (L:Int))).run Try.prog w=.ok (.slice (some ⟨w.heap.size,0,none⟩) L L) (w.alloc (.cells (madeCells #[.int .i64 0] L) 3)):=by
 obtain ⟨i,hi,hz,hs,hb⟩:=info3'
 have:=run_make (P:=Try.prog) w 33 3 i (.int .i64 0) Try.underlying33 hi hz .i64 .i64 L L (by omega) (Int.le_refl _) (by rw [hb]; omega) (by omega)
 have e:(Value.int .i64 0).cells=#[.int .i64 0]:=rfl
 rw [hs,e] at this
 simpa using this
theorem made_cell (L i:Nat) (hi:i < L) (w:World):(w.alloc (.cells (madeCells #[.int .i64 0] L) 3)).cell? ⟨w.heap.size,i,none⟩=some (.int .i64 0):=by
 refine cell_new0 w _ 3 i _ ?_
 simp [madeCells,hi,Nat.mod_one]
def NRow (w:World) (b L:Nat) (f:Nat→Nat):Prop:=b < w.heap.size∧∀ i,i < L→w.cell? ⟨b,i,none⟩=some (.int .i64 (f i:Nat))∧w.frozen? ⟨b,i,none⟩=false
theorem NRow.keep {B:Nat} {w w':World} {b L:Nat} {f:Nat→Nat} (h:NRow w b L f) (hb:Below B w w') (hB:b < B):NRow w' b L f :=
 ⟨Nat.lt_of_lt_of_le h.1 hb.size,fun i hi=>⟨(hb.cell (p:=⟨b,i,none⟩) hB).trans (h.2 i hi).1,(hb.frozen (p:=⟨b,i,none⟩) hB).trans (h.2 i hi).2⟩⟩
theorem NRow.set {w:World} {b L:Nat} {f:Nat→Nat} (h:NRow w b L f) (x v:Nat):NRow (w.setCell ⟨b,x,none⟩ (.int .i64 (v:Nat))) b L (updN f x v):=by
 refine ⟨by simpa using h.1,fun i hi=>?_⟩
 obtain ⟨c,fz⟩:=h.2 i hi
 refine ⟨?_,frozen_set _ _ _ _ fz⟩
 unfold updN
 by_cases e:i=x
 ·subst e
  rw [if_pos rfl]
  exact World.cell?_setCell_same' _ _ _ (by rw [c]; rfl)
 ·rw [if_neg e,World.cell?_setCell_other _ _ _ _ (by first | (simp; done) | (simpa using e))]
  exact c
def natV (x:Nat):Value:=.int .i64 (x:Int)
theorem ownsN_form {w:World} {base:Nat} {v:Value} {n:Nat} {xs:List Value} (h:w.ownsRow base 3 1 v n xs):∃ va vc,v=.slice va n vc:=by
 rcases h.2 with ⟨hv,h0⟩ | ⟨g,cap,cur,hv,-⟩
 ·exact ⟨none,0,by rw [hv,h0]⟩
 ·exact ⟨_,cap,hv⟩
theorem owns_pop {w:World} {base:Nat} {v:Value} {x:Nat} {st:List Nat} (h:w.ownsRow base 3 1 v (x :: st).length ((x :: st).reverse.map natV)):∃ g cap,v=.slice (some ⟨g,0,none⟩) (st.length+1) cap∧base≤g∧g < w.heap.size∧st.length≤cap∧w.cell? ⟨g,st.length,none⟩=some (.int .i64 (x:Int))∧∀ W:World,W.heap[g]?=w.heap[g]?→W.ownsRow base 3 1 (.slice (some ⟨g,0,none⟩) st.length cap) st.length (st.reverse.map natV):=by
 have h':=h
 obtain ⟨h1,h2⟩:=h
 rcases h2 with ⟨-,h2⟩ | ⟨g,cap,cur,rfl,hb,hg,hn,hm,hs,ht⟩
 ·simp at h2
 ·simp only [List.length_cons] at hn hs ht
  refine ⟨g,cap,rfl,hb,lt_of_block hg,by omega,?_,fun W hW=>⟨by simp,Or.inr ⟨g,cap,cur,rfl,hb,hW.trans hg,by omega,hm,hs,?_⟩⟩⟩
  ·have:=h'.cellAt st.length (by simp)
   simpa [natV] using this
  ·have e:cur.toList.take (st.length * 1)=(cur.toList.take ((st.length+1) * 1)).take (st.length * 1):=by rw [List.take_take]; congr 1; omega
   rw [e,ht]
   simp [List.take_append]
set_option maxHeartbeats 8000000 in
theorem closers30 {n:Nat} {w0 w:World} {a:Option Addr} {ws:List Wo} (h:WoIn n w0 a ws) (ho:Below w0.heap.size w0 w) (c:Nat) :
  Calls Try.prog 30 #[.slice a ws.length c] w fun e w'=>e=.returned (.slice (some ⟨w.heap.size,0,none⟩) ws.length ws.length)∧Below w.heap.size w w'∧NRow w' w.heap.size ws.length (cloV ws):=by
 obtain ⟨i3,hi3,hz0,hz1,hz2⟩:=info3'
 have hL:=h.1
 have hmk:=mk33 ws.length (by omega) w
 have HB1:=hide (one_alloc w (.cells (madeCells #[.int .i64 0] ws.length) 3))
 have HN1:=hide (show NRow (w.alloc (.cells (madeCells #[.int .i64 0] ws.length) 3)) w.heap.size ws.length (fun _=>0) from ⟨by simp,fun i hi=>⟨made_cell _ _ hi _,frozen_new _ _ _ _⟩⟩)
 have HC:=hide (show ∀ W,Below w.heap.size w W→∀ i,i < ws.length→∃ b off z1 m1 z2 m2 S P L1 L2,a=some ⟨b,off,none⟩∧W.cell? ⟨b,off+i * 5,none⟩=some (.int .i64 (wAt ws i).kind)∧W.cell? ⟨b,off+i * 5+1,none⟩=some (.string S)∧W.cell? ⟨b,off+i * 5+2,none⟩=some (.slice z1 L1 m1)∧W.cell? ⟨b,off+i * 5+3,none⟩=some (.slice z2 L2 m2)∧W.cell? ⟨b,off+i * 5+4,none⟩=some (.int .i64 P) from fun W hW i hi=>by
  obtain ⟨b,off,z1,m1,z2,m2,ha,hb,h0,h1,h2,h3,h4,-⟩:=h.2 i hi
  have hw:=ho.trans (hW.mono ho.size)
  exact ⟨b,off,z1,m1,z2,m2,_,_,_,_,ha,(hw.cell (p:=⟨b,_,none⟩) hb).trans h0,(hw.cell (p:=⟨b,_,none⟩) hb).trans h1,(hw.cell (p:=⟨b,_,none⟩) hb).trans h2,(hw.cell (p:=⟨b,_,none⟩) hb).trans h3,(hw.cell (p:=⟨b,_,none⟩) hb).trans h4⟩)
 have HS:=hide (clo_start ws)
 have HP:=hide (fun (j:Nat) (st:List Nat) (f:Nat→Nat) (h:CloI ws j st f)=>(⟨clo_push h,clo_stay h⟩:(j < ws.length→(wAt ws j).kind=5→CloI ws (j+1) (j :: st) f)∧(j < ws.length→(wAt ws j).kind ≠ 5→((wAt ws j).kind=6→st=[])→CloI ws (j+1) st f)))
 have HQ:=hide (fun (j x:Nat) (st:List Nat) (f:Nat→Nat) (h:CloI ws j (x :: st) f)=>clo_pop h)
 have HX:=hide (fun (j x:Nat) (st:List Nat) (f:Nat→Nat) (h:CloI ws j (x :: st) f)=>(h.1 0 x rfl).1)
 have HE:=hide (fun (st:List Nat) (f:Nat→Nat) (h:CloI ws ws.length st f)=>clo_end h)
 clear h ho
 generalize hLL:ws.length=L at *
 have HLL:=hide hLL
 clear hLL
 generalize hw1:w.alloc (.cells (madeCells #[.int .i64 0] L) 3)=w1 at *
 clear hw1
 go_enter Try.func30,Try.ntmps30
 go_wp2
 go_loopg [4,13] L (fun gm v ix wr=>∃ (j:Nat) (st:List Nat) (f:Nat→Nat),gm+j=L∧ix=.int .i64 (j:Int)∧Below w.heap.size w wr∧NRow wr w.heap.size L f∧wr.ownsRow (w.heap.size+1) 3 1 v st.length (st.reverse.map natV)∧CloI ws j st f)
 case atStart=>exact ⟨0,[],_,rfl,rfl,HB1.out,HN1.out,World.ownsRow_nil _ _ _ _,HS.out⟩
 case round =>
  obtain ⟨j,st,f,hj,rfl,hbr,hn,hown,hcl⟩:=hrel
  clear HB1 HN1 HS
  by_cases hlt:j < L
  ·obtain ⟨b,off,z1,m1,z2,m2,S,P,L1,L2,rfl,g0,g1,g2,g3,g4⟩:=HC.out wr hbr j hlt
   have HST:=hide (And.intro hcl (And.intro hn (And.intro hbr hown)))
   clear HC HE hmk hcl hn hbr hown
   obtain ⟨K,hK⟩:∃ K,(wAt ws j).kind=K:=⟨_,rfl⟩
   rw [hK] at g0
   have HK:=hide hK
   clear hK
   by_cases h5:K=5
   ·subst h5
    obtain ⟨hcl,hn,hbr,hown⟩:=HST.out
    obtain ⟨va,vc,rfl⟩:=ownsN_form hown
    have OWN:=(hown.alloc (.cells #[.int .i64 5,.string S,.slice z1 L1 m1,.slice z2 L2 m2,.int .i64 P] 43)).alloc (.cells #[.int .i64 (j:Int)] 3)
    have HNW:Hid (∀ i u,[Value.int .i64 (j:Int)][i]?=some u→((wr.alloc (.cells #[.int .i64 5,.string S,.slice z1 L1 m1,.slice z2 L2 m2,.int .i64 P] 43)).alloc (.cells #[.int .i64 (j:Int)] 3)).cell? ((⟨wr.heap.size+1,0,none⟩:Addr).add i)=some u):=by
     intro i u hu
     rw [add_off,Nat.zero_add]
     have:=cell_new0 (wr.alloc (.cells #[.int .i64 5,.string S,.slice z1 L1 m1,.slice z2 L2 m2,.int .i64 P] 43)) #[.int .i64 (j:Int)] 3 i u (by simpa using hu)
     simpa using this
    have HNX:=hide (two_allocs wr (.cells #[.int .i64 5,.string S,.slice z1 L1 m1,.slice z2 L2 m2,.int .i64 P] 43) (.cells #[.int .i64 (j:Int)] 3))
    have HZZ:Hid (w.heap.size+1≤((wr.alloc (.cells #[.int .i64 5,.string S,.slice z1 L1 m1,.slice z2 L2 m2,.int .i64 P] 43)).alloc (.cells #[.int .i64 (j:Int)] 3)).heap.size):=Nat.le_trans hn.1 HNX.out.size
    have HCL2:=hide ((HP.out j st f hcl).1 hlt HK.out)
    have q0:=cell_new0 wr #[.int .i64 5,.string S,.slice z1 L1 m1,.slice z2 L2 m2,.int .i64 P] 43 0 _ rfl
    have HST2:=hide (And.intro hn hbr)
    have hst:st.length≤2000:=by have:=hcl.2.2; omega
    clear HST HK HP HQ HX hcl hn hbr hown
    go_wp2_with (at_builtin; refine wpList_append_B rfl _ _ 33 rfl (w.heap.size+1) 3 i3 (.int .i64 0) 1 8 Try.underlying33 hi3 hz0 hz1 hz2 rfl (by decide) _ _ _ rfl OWN ⟨wr.heap.size+1,0,none⟩ 1 1 [.int .i64 (j:Int)] rfl rfl HNW.out ?c2 ?c3 ?c4 HZZ.out ?_)
    case c2 =>
     intro u hu
     simp at hu
     subst hu
     rfl
    case c3=>unfold maxLen; omega
    case c4=>omega
    intro v' w3 hown3 hb3
    have HF:=hide (show Below w.heap.size w w3∧NRow w3 w.heap.size L f∧w3.ownsRow (w.heap.size+1) 3 1 v' (j :: st).length ((j :: st).reverse.map natV) from
     ⟨HST2.out.2.trans ((HNX.out.mono HST2.out.2.size).trans (hb3.mono (Nat.le_succ _))),(HST2.out.1.keep (HNX.out.mono HST2.out.1.1) (Nat.lt_succ_self _)).keep hb3 (Nat.lt_succ_self _),by simpa [natV] using hown3⟩)
    clear hown3 hb3 OWN HNW HZZ HNX HST2 g0 g1 g2 g3 g4 q0
    go_wp2
    go_roundg (L - (j+1))
    case rel=>exact ⟨j+1,j :: st,f,by omega,by go_num,HF.out.1,HF.out.2.1,HF.out.2.2,HCL2.out⟩
    case measure=>omega
   ·by_cases h6:K=6
    ·subst h6
     obtain ⟨hcl,hn,hbr,hown⟩:=HST.out
     have q0:=cell_new0 wr #[.int .i64 6,.string S,.slice z1 L1 m1,.slice z2 L2 m2,.int .i64 P] 43 0 _ rfl
     have HNX:=hide (one_alloc wr (.cells #[.int .i64 6,.string S,.slice z1 L1 m1,.slice z2 L2 m2,.int .i64 P] 43))
     have OWN:=hown.alloc (.cells #[.int .i64 6,.string S,.slice z1 L1 m1,.slice z2 L2 m2,.int .i64 P] 43)
     cases st with
     | nil =>
      have HCL2:=hide ((HP.out j [] f hcl).2 hlt (by rw [HK.out]; omega) (fun _=>rfl))
      obtain ⟨va,vc,rfl⟩:=ownsN_form hown
      have HF:=hide (And.intro (hbr.trans (HNX.out.mono hbr.size)) (And.intro (hn.keep HNX.out hn.1) OWN))
      clear HST HK HP HQ HX hcl hn hbr hown OWN
      go_wp2
      go_roundg (L - (j+1))
      case rel=>exact ⟨j+1,[],f,by omega,by go_num,HF.out.1,HF.out.2.1,HF.out.2.2,HCL2.out⟩
      case measure=>omega
     | cons x st =>
      have HCL2:=hide (HQ.out j x st f hcl hlt HK.out)
      have hx:=HX.out j x st f hcl
      have hxL:x < L:=by omega
      have hst:st.length+1≤2000:=by have:=hcl.2.2; simp at this; omega
      obtain ⟨g,cap,rfl,hg1,hg2,hcap,hgc,hpop⟩:=owns_pop OWN
      have hsl:=fun W=>part_h (P:=Try.prog) (t:=33) (e:=3) (sz:=1) Try.underlying33 sz3 (some ⟨g,0,none⟩) (st.length+1) cap st.length (st.length:Int) rfl hcap W
      have hnx:=hn.keep HNX.out hn.1
      obtain ⟨oc,ofz⟩:=hnx.2 x hxL
      have HF:=hide (show Below w.heap.size w ((wr.alloc (.cells #[.int .i64 6,.string S,.slice z1 L1 m1,.slice z2 L2 m2,.int .i64 P] 43)).setCell ⟨w.heap.size,x,none⟩ (.int .i64 ((j+1:Nat):Int)))∧NRow ((wr.alloc (.cells #[.int .i64 6,.string S,.slice z1 L1 m1,.slice z2 L2 m2,.int .i64 P] 43)).setCell ⟨w.heap.size,x,none⟩ (.int .i64 ((j+1:Nat):Int))) w.heap.size L (updN f x (j+1))∧((wr.alloc (.cells #[.int .i64 6,.string S,.slice z1 L1 m1,.slice z2 L2 m2,.int .i64 P] 43)).setCell ⟨w.heap.size,x,none⟩ (.int .i64 ((j+1:Nat):Int))).ownsRow (w.heap.size+1) 3 1 (.slice (some ⟨g,0,none⟩) st.length cap) st.length (st.reverse.map natV) from
       ⟨(hbr.trans (HNX.out.mono hbr.size)).setCell (p:=⟨w.heap.size,x,none⟩) (Nat.le_refl _) _,hnx.set x (j+1),hpop _ (Below.heap_setCell _ _ _ _ (by simp; omega))⟩)
      have hge:(0:Int)≤(st.length:Int):=by omega
      generalize hM:st.length=M at *
      have HM:=hide hM
      clear hM
      have e1:IntKind.i64.wrap (((M+1:Nat):Int) - 1)=(M:Int):=(IntWalk.i64_in _ ⟨by omega,by omega⟩).trans (by omega)
      have e2:IntKind.i64.wrap ((j:Int)+1)=((j+1:Nat):Int):=(IntWalk.i64_in _ ⟨by omega,by omega⟩).trans (by simp)
      clear HST HK HP HQ HX hcl hn hbr hown OWN hpop hnx
      go_wp2
      go_roundg (L - (j+1))
      case rel=>exact ⟨j+1,st,_,by omega,by go_num,HF.out.1,HF.out.2.1,by rw [HM.out]; exact HF.out.2.2,HCL2.out⟩
      case measure=>omega
    ·obtain ⟨hcl,hn,hbr,hown⟩:=HST.out
     have HNX:=hide (one_alloc wr (.cells #[.int .i64 K,.string S,.slice z1 L1 m1,.slice z2 L2 m2,.int .i64 P] 43))
     have q0:=cell_new0 wr #[.int .i64 K,.string S,.slice z1 L1 m1,.slice z2 L2 m2,.int .i64 P] 43 0 _ rfl
     have HCL2:=hide ((HP.out j st f hcl).2 hlt (by rw [HK.out]; exact h5) (fun e=>absurd (HK.out.symm.trans e) h6))
     have k5:(K == 5)=false:=by simpa using h5
     have k6:(K == 6)=false:=by simpa using h6
     have hst:st.length≤2000:=by have:=hcl.2.2; omega
     obtain ⟨va,vc,rfl⟩:=ownsN_form hown
     have HF:=hide (And.intro (hbr.trans (HNX.out.mono hbr.size)) (And.intro (hn.keep HNX.out hn.1) (hown.alloc (.cells #[.int .i64 K,.string S,.slice z1 L1 m1,.slice z2 L2 m2,.int .i64 P] 43))))
     clear HST HK HP HQ HX hcl hn hbr hown
     generalize hM:st.length=M at *
     have HM:=hide hM
     clear hM
     go_wp2
     go_roundg (L - (j+1))
     case rel=>exact ⟨j+1,st,f,by omega,by go_num,HF.out.1,HF.out.2.1,by rw [HM.out]; exact HF.out.2.2,HCL2.out⟩
     case measure=>omega
  ·have hje:j=L:=by omega
   have HF:=hide (show NRow wr w.heap.size L (cloV ws) from ⟨hn.1,fun i hi=>by
    have:=HE.out st f (by rw [←hje]; exact hcl) i hi
    rw [←this]
    exact hn.2 i hi⟩)
   have HBR:=hide hbr
   clear HC HE HP HQ HX hcl hn hbr hown hmk
   go_wp2
   go_ret
   exact ⟨rfl,HBR.out,HF.out⟩
end Go.Proofs.Ytnaejfoighmfeaa
namespace Go.Proofs.Ytnaejfoighmfeaa
open Go.ChangeShapes Go.WideShapes Go.ChangeAt Go.RowKit
set_option maxRecDepth 100000
set_option linter.unusedVariables false
structure Mj (R:Nat→World→Nat→Prop) (w3:World) (done:Nat→Bool) (D:Nat→Nat) (w:World):Prop where
 below:Below w3.heap.size w3 w
 each:∀ i,done i=true→w3.heap.size≤D i∧D i < w.heap.size∧R i w (D i)
 inj:∀ i j,done i=true→done j=true→i ≠ j→D i ≠ D j
def updB (f:Nat→Bool) (i:Nat):Nat→Bool:=fun j=>if j=i then true else f j
def updD (f:Nat→Nat) (i v:Nat):Nat→Nat:=fun j=>if j=i then v else f j
theorem Mj.add {R:Nat→World→Nat→Prop} {w3 w w':World} {done:Nat→Bool} {D:Nat→Nat} (h:Mj R w3 done D w) (hR:∀ i w w' b,Below w.heap.size w w'→b < w.heap.size→R i w b→R i w' b) {i0 b:Nat} (hn:done i0=false) (hb:Below w.heap.size w w') (h1:w.heap.size≤b) (h2:b < w'.heap.size) (hr:R i0 w' b):Mj R w3 (updB done i0) (updD D i0 b) w':=by
 have hs:=h.below.size
 refine ⟨h.below.trans (hb.mono hs),fun i hi=>?_,fun i j hi hj hij=>?_⟩
 ·unfold updB at hi
  unfold updD
  by_cases e:i=i0
  ·subst e
   rw [if_pos rfl]
   exact ⟨by omega,h2,hr⟩
  ·rw [if_neg e] at hi ⊢
   obtain ⟨h3,h4,h5⟩:=h.each i hi
   exact ⟨h3,Nat.lt_of_lt_of_le h4 hb.size,hR i _ _ _ hb h4 h5⟩
 ·unfold updB at hi hj
  unfold updD
  by_cases e:i=i0
  ·subst e
   rw [if_neg (Ne.symm hij)] at hj
   rw [if_pos rfl,if_neg (Ne.symm hij)]
   have:=(h.each j hj).2.1
   omega
  ·rw [if_neg e] at hi
   rw [if_neg e]
   by_cases e2:j=i0
   ·subst e2
    rw [if_pos rfl]
    have:=(h.each i hi).2.1
    omega
   ·rw [if_neg e2] at hj ⊢
    exact h.inj i j hi hj hij
def dn (c x y z m:Bool):Nat→Bool
 | 0=>c
 | 1=>x
 | 2=>y
 | 3=>z
 | 4=>m
 | _=>false
theorem dn0 (x y z m:Bool):updB (dn false x y z m) 0=dn true x y z m:=by funext i; unfold updB; rcases i with _ | _ | _ | _ | _ | i <;> simp [dn]
theorem dn1 (c y z m:Bool):updB (dn c false y z m) 1=dn c true y z m:=by funext i; unfold updB; rcases i with _ | _ | _ | _ | _ | i <;> simp [dn]
theorem dn2 (c x z m:Bool):updB (dn c x false z m) 2=dn c x true z m:=by funext i; unfold updB; rcases i with _ | _ | _ | _ | _ | i <;> simp [dn]
theorem dn3 (c x y m:Bool):updB (dn c x y false m) 3=dn c x y true m:=by funext i; unfold updB; rcases i with _ | _ | _ | _ | _ | i <;> simp [dn]
theorem dn4 (c x y z:Bool):updB (dn c x y z false) 4=dn c x y z true:=by funext i; unfold updB; rcases i with _ | _ | _ | _ | _ | i <;> simp [dn]
def pB (f:Bool) (d:Nat) (v:Value) (a:Act):Act:=if f then a.put (some d) v else a
theorem pB_put (f:Bool) {d d':Nat} (h:d ≠ d') (v u:Value) (a:Act):(pB f d v a).put (some d') u=pB f d v (a.put (some d') u):=by
 cases f with
 | false=>rfl
 | true=>exact Act.put_comm a (x:=some d) (y:=some d') v u (fun k hk e=>by cases hk; cases e; exact h rfl)
theorem pB_eval (f:Bool) {d:Nat} (v:Value) (a:Act) {x:Operand} (h:x ≠ .tmp d):(pB f d v a).eval x=a.eval x:=by
 cases f with
 | false=>rfl
 | true=>exact Act.eval_put (dst:=some d) (fun k hk=>by cases hk; exact h)
def chA (s0 s1 s2 s3 s4:Nat) (val:Nat→Nat→Value) (done:Nat→Bool) (D:Nat→Nat) (A0:Act):Act :=
 pB (done 4) s4 (val 4 (D 4)) (pB (done 3) s3 (val 3 (D 3)) (pB (done 2) s2 (val 2 (D 2)) (pB (done 1) s1 (val 1 (D 1)) (pB (done 0) s0 (val 0 (D 0)) A0))))
section
variable {s0 s1 s2 s3 s4:Nat} {val:Nat→Nat→Value} {D:Nat→Nat} {A0:Act} {c x y z m:Bool} (h01:s0 ≠ s1) (h02:s0 ≠ s2) (h03:s0 ≠ s3) (h04:s0 ≠ s4) (h12:s1 ≠ s2) (h13:s1 ≠ s3) (h14:s1 ≠ s4) (h23:s2 ≠ s3) (h24:s2 ≠ s4) (h34:s3 ≠ s4)
include h01 h02 h03 h04 in
theorem ch0 (b:Nat):(chA s0 s1 s2 s3 s4 val (dn false x y z m) D A0).put (some s0) (val 0 b)=chA s0 s1 s2 s3 s4 val (dn true x y z m) (updD D 0 b) A0:=by
 unfold chA
 rw [pB_put _ (Ne.symm h04),pB_put _ (Ne.symm h03),pB_put _ (Ne.symm h02),pB_put _ (Ne.symm h01)]
 rfl
include h12 h13 h14 in
theorem ch1 (b:Nat):(chA s0 s1 s2 s3 s4 val (dn c false y z m) D A0).put (some s1) (val 1 b)=chA s0 s1 s2 s3 s4 val (dn c true y z m) (updD D 1 b) A0:=by
 unfold chA
 rw [pB_put _ (Ne.symm h14),pB_put _ (Ne.symm h13),pB_put _ (Ne.symm h12)]
 rfl
include h23 h24 in
theorem ch2 (b:Nat):(chA s0 s1 s2 s3 s4 val (dn c x false z m) D A0).put (some s2) (val 2 b)=chA s0 s1 s2 s3 s4 val (dn c x true z m) (updD D 2 b) A0:=by
 unfold chA
 rw [pB_put _ (Ne.symm h24),pB_put _ (Ne.symm h23)]
 rfl
include h34 in
theorem ch3 (b:Nat):(chA s0 s1 s2 s3 s4 val (dn c x y false m) D A0).put (some s3) (val 3 b)=chA s0 s1 s2 s3 s4 val (dn c x y true m) (updD D 3 b) A0:=by
 unfold chA
 rw [pB_put _ (Ne.symm h34)]
 rfl
theorem ch4 (b:Nat):(chA s0 s1 s2 s3 s4 val (dn c x y z false) D A0).put (some s4) (val 4 b)=chA s0 s1 s2 s3 s4 val (dn c x y z true) (updD D 4 b) A0:=rfl
end
def one (b:Bool):Nat:=if b then 0 else 1
def rdy (c x y z b m s:Bool):List Nat :=
 (if c then [] else [3]) ++ (if x then [] else [5]) ++ (if y then [] else [7]) ++ (if z then [] else [9]) ++ (if c && x && y && z && !b then [10] else []) ++ (if m then [] else [11]) ++ (if c && x && y && z && b && m && !s then [12] else [])
def lst (c x y z b m s:Bool):Array Bool:=#[true,true,true,c,true,x,true,y,true,z,b,m,s]
theorem drive {P:Program} {ops:Array Oper} {Q:Exit→Act→World→Prop} {R:Nat→World→Nat→Prop} {w3:World} {s0 s1 s2 s3 s4 s5:Nat} {val:Nat→Nat→Value} {vb:(Nat→Nat)→Value} {A0:Act}
  (h01:s0 ≠ s1) (h02:s0 ≠ s2) (h03:s0 ≠ s3) (h04:s0 ≠ s4) (h12:s1 ≠ s2) (h13:s1 ≠ s3) (h14:s1 ≠ s4) (h23:s2 ≠ s3) (h24:s2 ≠ s4) (h34:s3 ≠ s4) (h45:s4 ≠ s5)
  (hR:∀ i w w' b,Below w.heap.size w w'→b < w.heap.size→R i w b→R i w' b)
  (hr:∀ c x y z b m s,Region.ready .any ops (lst c x y z b m s)=rdy c x y z b m s)
  (T:∀ (o i s:Nat),(o=3∧i=0∧s=s0) ∨ (o=5∧i=1∧s=s1) ∨ (o=7∧i=2∧s=s2) ∨ (o=9∧i=3∧s=s3)→∀ done D w,Mj R w3 done D w→∀ K:Act→World→Prop,(∀ b w',Below w.heap.size w w'→w.heap.size≤b→b < w'.heap.size→R i w' b→K ((chA s0 s1 s2 s3 s4 val done D A0).put (some s) (val i b)) w')→wpOp P ops Q o K (chA s0 s1 s2 s3 s4 val done D A0) w)
  (T4:∀ a w (K:Act→World→Prop),(∀ b w',Below w.heap.size w w'→w.heap.size≤b→b < w'.heap.size→R 4 w' b→K (a.put (some s4) (val 4 b)) w')→wpOp P ops Q 11 K a w)
  (TB:∀ m D w (K:Act→World→Prop),K ((chA s0 s1 s2 s3 s4 val (dn true true true true m) D A0).put (some s5) (vb D)) w→wpOp P ops Q 10 K (chA s0 s1 s2 s3 s4 val (dn true true true true m) D A0) w)
  (hvb:∀ D b,vb (updD D 4 b)=vb D)
  (TE:∀ D w,Mj R w3 (dn true true true true true) D w→wpOp P ops Q 12 (fun a' w'=>Below w3.heap.size w3 w'∧Q .normal a' w') ((chA s0 s1 s2 s3 s4 val (dn true true true true true) D A0).put (some s5) (vb D)) w) :
  ∀ (k:Nat) (c x y z m:Bool),one c+one x+one y+one z+one m=k→∀ D w,Mj R w3 (dn c x y z m) D w→wpAnyH P .any ops Q (fun W=>Below w3.heap.size w3 W) (k+2) (lst c x y z false m false) (chA s0 s1 s2 s3 s4 val (dn c x y z m) D A0) w:=by
 have hE:∀ D w,Mj R w3 (dn true true true true true) D w→wpAnyH P .any ops Q (fun W=>Below w3.heap.size w3 W) 1 (lst true true true true true true false) ((chA s0 s1 s2 s3 s4 val (dn true true true true true) D A0).put (some s5) (vb D)) w:=fun D w hM=>by
  refine wpAnyH_all (hr _ _ _ _ _ _ _) (by simp [rdy]) fun i hi=>?_
  obtain rfl:i=12:=by simpa [rdy] using hi
  exact wpOp_mono (fun a' w' hh=>⟨hh.1,wpAnyH_done (hr true true true true true true true) hh.2 0⟩) (TE D w hM)
 intro k
 induction k with
 | zero =>
  intro c x y z m hk D w hM
  obtain ⟨rfl,rfl,rfl,rfl,rfl⟩:c=true∧x=true∧y=true∧z=true∧m=true:=by
   cases c <;> cases x <;> cases y <;> cases z <;> cases m <;> simp [one] at hk ⊢
  refine wpAnyH_all (hr _ _ _ _ _ _ _) (by simp [rdy]) fun i hi=>?_
  obtain rfl:i=10:=by simpa [rdy] using hi
  exact TB true D w _ ⟨hM.below,hE D w hM⟩
 | succ k ih =>
  intro c x y z m hk D w hM
  refine wpAnyH_all (hr _ _ _ _ _ _ _) ?_ fun i hi=>?_
  ·cases c <;> cases x <;> cases y <;> cases z <;> cases m <;> simp [one,rdy] at hk ⊢
  ·have key:(i=3∧c=false) ∨ (i=5∧x=false) ∨ (i=7∧y=false) ∨ (i=9∧z=false) ∨ (i=10∧c=true∧x=true∧y=true∧z=true) ∨ (i=11∧m=false):=by
    cases c <;> cases x <;> cases y <;> cases z <;> cases m <;> simp [rdy] at hi ⊢ <;> omega
   rcases key with ⟨rfl,rfl⟩ | ⟨rfl,rfl⟩ | ⟨rfl,rfl⟩ | ⟨rfl,rfl⟩ | ⟨rfl,rfl,rfl,rfl,rfl⟩ | ⟨rfl,rfl⟩
   ·refine T 3 0 s0 (Or.inl ⟨rfl,rfl,rfl⟩) _ D w hM _ fun b w' hb h1 h2 hr'=>?_
    have hM':=hM.add hR (i0:=0) rfl hb h1 h2 hr'
    rw [dn0] at hM'
    rw [ch0 h01 h02 h03 h04]
    exact ⟨hM'.below,ih true x y z m (by simp [one] at hk ⊢; omega) _ _ hM'⟩
   ·refine T 5 1 s1 (Or.inr (Or.inl ⟨rfl,rfl,rfl⟩)) _ D w hM _ fun b w' hb h1 h2 hr'=>?_
    have hM':=hM.add hR (i0:=1) rfl hb h1 h2 hr'
    rw [dn1] at hM'
    rw [ch1 h12 h13 h14]
    exact ⟨hM'.below,ih c true y z m (by simp [one] at hk ⊢; omega) _ _ hM'⟩
   ·refine T 7 2 s2 (Or.inr (Or.inr (Or.inl ⟨rfl,rfl,rfl⟩))) _ D w hM _ fun b w' hb h1 h2 hr'=>?_
    have hM':=hM.add hR (i0:=2) rfl hb h1 h2 hr'
    rw [dn2] at hM'
    rw [ch2 h23 h24]
    exact ⟨hM'.below,ih c x true z m (by simp [one] at hk ⊢; omega) _ _ hM'⟩
   ·refine T 9 3 s3 (Or.inr (Or.inr (Or.inr ⟨rfl,rfl,rfl⟩))) _ D w hM _ fun b w' hb h1 h2 hr'=>?_
    have hM':=hM.add hR (i0:=3) rfl hb h1 h2 hr'
    rw [dn3] at hM'
    rw [ch3 h34]
    exact ⟨hM'.below,ih c x y true m (by simp [one] at hk ⊢; omega) _ _ hM'⟩
   ·have hm:m=false:=by cases m <;> simp [one] at hk ⊢
    subst hm
    obtain rfl:k=0:=by simp [one] at hk; omega
    refine TB false D w _ ⟨hM.below,?_⟩
    refine wpAnyH_all (hr true true true true true false false) (by simp [rdy]) fun i hi=>?_
    obtain rfl:i=11:=by simpa [rdy] using hi
    refine T4 _ _ _ fun b w' hb h1 h2 hr'=>?_
    have hM':=hM.add hR (i0:=4) rfl hb h1 h2 hr'
    rw [dn4] at hM'
    refine ⟨hM'.below,?_⟩
    have e:((chA s0 s1 s2 s3 s4 val (dn true true true true false) D A0).put (some s5) (vb D)).put (some s4) (val 4 b)=(chA s0 s1 s2 s3 s4 val (dn true true true true true) (updD D 4 b) A0).put (some s5) (vb (updD D 4 b)):=by
     rw [Act.put_comm _ _ _ (fun d hd e=>by cases hd; cases e; exact h45 rfl),ch4,hvb]
    rw [e]
    exact hE _ _ hM'
   ·refine T4 _ _ _ fun b w' hb h1 h2 hr'=>?_
    have hM':=hM.add hR (i0:=4) rfl hb h1 h2 hr'
    rw [dn4] at hM'
    rw [ch4]
    exact ⟨hM'.below,ih c x y z true (by simp [one] at hk ⊢; omega) _ _ hM'⟩
end Go.Proofs.Ytnaejfoighmfeaa
namespace Go.Proofs.Ytnaejfoighmfeaa
open Go.ChangeShapes Go.WideShapes Go.ChangeAt Go.RowKit
set_option maxRecDepth 100000
set_option linter.unusedVariables false
set_option linter.unusedSimpArgs false
structure Rd (n:Nat) (w0 w:World) (p:Nat) (g:Gr) (R:Raw) (ws:List Wo) (A:Ra) (i:Nat) (e:Int):Prop where
 sp:Sp n w0 w p g R ws A 0 0 0
 c19:w.cell? ⟨p,19,none⟩=some (.int .i64 (i:Int))
 c20:w.cell? ⟨p,20,none⟩=some (.int .i64 e)
 fz:w.frozen? ⟨p,19,none⟩=false
 hi:i≤ws.length
 below:∀ x b off,(x=A.xc ∨ x=A.xt ∨ x=A.xa ∨ x=A.xb)→x=some (⟨b,off,none⟩:Addr)→b < p
section
variable {n:Nat} {w0 w w':World} {p:Nat} {g:Gr} {R:Raw} {ws:List Wo} {A:Ra} {i:Nat} {e:Int}
theorem Rd.next (h:Rd n w0 w p g R ws A i e) (hb:Below w.heap.size w w'):Rd n w0 w' p g R ws A i e :=
 ⟨h.sp.next hb,(hb.cell (p:=⟨p,19,none⟩) h.sp.sn.hp2).trans h.c19,(hb.cell (p:=⟨p,20,none⟩) h.sp.sn.hp2).trans h.c20,(hb.frozen (p:=⟨p,19,none⟩) h.sp.sn.hp2).trans h.fz,h.hi,h.below⟩
theorem IntsIn.turn {a:Option Addr} {f:Nat→Nat} {lo hi:Nat} (h:IntsIn w p a f lo hi) (hs:w.heap.size≤w'.heap.size) (hk:∀ k,k < w.heap.size→k ≠ p→w'.heap[k]?=w.heap[k]?):IntsIn w' p a f lo hi:=fun j h1 h2=>by
 obtain ⟨b,off,ha,hl,hn,hc⟩:=h j h1 h2
 exact ⟨b,off,ha,Nat.lt_of_lt_of_le hl hs,hn,(World.cell?_of_block (w:=w) (a:=⟨b,off+j,none⟩) (hk b hl hn)).trans hc⟩
theorem Rd.move (h:Rd n w0 w p g R ws A i e) (j:Nat) (hj:j≤ws.length):Rd n w0 (w.setCell ⟨p,19,none⟩ (.int .i64 (j:Int))) p g R ws A j e:=by
 have hk:∀ k,k < w.heap.size→k ≠ p→(w.setCell ⟨p,19,none⟩ (.int .i64 (j:Int))).heap[k]?=w.heap[k]?:=fun k _ hne=>Below.heap_setCell _ _ _ _ hne
 have ho:∀ o,o ≠ 19→(w.setCell ⟨p,19,none⟩ (.int .i64 (j:Int))).cell? ⟨p,o,none⟩=w.cell? ⟨p,o,none⟩:=fun o ho=>World.cell?_setCell_other _ _ _ _ (by first | (simp; done) | (simpa using ho))
 have hsz:w.heap.size≤(w.setCell ⟨p,19,none⟩ (.int .i64 (j:Int))).heap.size:=by simp
 refine ⟨⟨h.sp.sn.turn (h.sp.sn.old.setCell (p:=⟨p,19,none⟩) h.sp.sn.hp _) (by simpa using h.sp.sn.hp2) (fun o hl=>ho o (by omega)),(ho 15 (by omega)).trans h.sp.c15,(ho 16 (by omega)).trans h.sp.c16,(ho 17 (by omega)).trans h.sp.c17,(ho 18 (by omega)).trans h.sp.c18,h.sp.hc.turn hsz hk,h.sp.ht.turn hsz hk,h.sp.ha.turn hsz hk,h.sp.hb.turn hsz hk⟩,?_,(ho 20 (by omega)).trans h.c20,frozen_set _ _ _ _ h.fz,hj,h.below⟩
 exact World.cell?_setCell_same' _ _ _ (by rw [h.c19]; rfl)
theorem IntsIn.upto {a:Option Addr} {f:Nat→Nat} {lo hi:Nat} (h:IntsIn w p a f lo hi) (hb:Below (p+1) w w') (hl:∀ b off,a=some ⟨b,off,none⟩→b < p):IntsIn w' p a f lo hi:=fun j h1 h2=>by
 obtain ⟨b,off,ha,hlt,hn,hc⟩:=h j h1 h2
 have:=hl b off ha
 exact ⟨b,off,ha,Nat.lt_of_lt_of_le hlt hb.size,hn,(hb.cell (p:=⟨b,off+j,none⟩) (by show b < p+1; omega)).trans hc⟩
theorem Rd.upto (h:Rd n w0 w p g R ws A i e) (hb:Below (p+1) w w'):Rd n w0 w' p g R ws A i e:=by
 have c:∀ o,w'.cell? ⟨p,o,none⟩=w.cell? ⟨p,o,none⟩:=fun o=>hb.cell (p:=⟨p,o,none⟩) (Nat.lt_succ_self p)
 refine ⟨⟨h.sp.sn.turn (h.sp.sn.old.trans (hb.mono (Nat.le_succ_of_le h.sp.sn.hp))) (Nat.lt_of_lt_of_le h.sp.sn.hp2 hb.size) (fun o _=>c o),(c 15).trans h.sp.c15,(c 16).trans h.sp.c16,(c 17).trans h.sp.c17,(c 18).trans h.sp.c18,h.sp.hc.upto hb fun b off e=>h.below _ b off (Or.inl rfl) e,h.sp.ht.upto hb fun b off e=>h.below _ b off (Or.inr (Or.inl rfl)) e,h.sp.ha.upto hb fun b off e=>h.below _ b off (Or.inr (Or.inr (Or.inl rfl))) e,h.sp.hb.upto hb fun b off e=>h.below _ b off (Or.inr (Or.inr (Or.inr rfl))) e⟩,(c 19).trans h.c19,(c 20).trans h.c20,(hb.frozen (p:=⟨p,19,none⟩) (Nat.lt_succ_self p)).trans h.fz,h.hi,h.below⟩
theorem Rd.moved (h:Rd n w0 w p g R ws A i e) (j:Nat):But (·=p) w (w.setCell ⟨p,19,none⟩ (.int .i64 (j:Int))) :=
 ⟨rfl,rfl,rfl,by simp,fun k hk hn=>Below.heap_setCell _ _ _ _ hn⟩
end
theorem place_at {ws:List Wo} {i:Nat} (h:i < ws.length) (e:Int):placeR e (ws.drop i)=(wAt ws i).pos:=by rw [drop_at h]; rfl
theorem place_end {ws:List Wo} {i:Nat} (h:¬ i < ws.length) (e:Int):placeR e (ws.drop i)=e:=by rw [drop_end h]; rfl
set_option maxHeartbeats 4000000 in
theorem place37 {n:Nat} {w0 w:World} {p:Nat} {g:Gr} {R:Raw} {ws:List Wo} {A:Ra} {i:Nat} {e:Int} (h:Rd n w0 w p g R ws A i e) :
  Calls Try.prog 37 #[.pointer (some ⟨p,0,none⟩)] w fun en w'=>en=.returned (.int .i64 (placeR e (ws.drop i)))∧∃ m,w'=w.drewN m:=by
 have c14:=h.sp.sn.c14
 have c19:=h.c19
 have c20:=h.c20
 have hL:=h.sp.sn.words
 have hi:=h.hi
 by_cases hlt:i < ws.length
 ·rw [place_at hlt]
  obtain ⟨b,off,z1,m1,z2,m2,ha,-,-,-,-,h4,-⟩:=h.sp.sn.word hlt
  rw [ha] at c14
  clear h ha c20
  generalize (wAt ws i).pos=P at *
  have hne:((i:Int) == (ws.length:Int))=false:=by simp; omega
  have hne2:¬ (i:Int)=(ws.length:Int):=by omega
  generalize ws.length=L at *
  generalize R.cw=cw at *
  go_enter Try.func37,Try.ntmps37
  go_upto_region 1 with fail
  go_quiet (fail)
  go_wp2
  go_quiet (fail)
  go_wp2
  go_ret
  exact ⟨rfl,by first | exact ⟨_,rfl⟩ | exact ⟨_,World.drewN_drewN _ _ _⟩⟩
 ·rw [place_end hlt]
  obtain rfl:i=ws.length:=by omega
  clear h
  generalize ws.length=L at *
  generalize R.aw=aw at *
  generalize R.cw=cw at *
  go_enter Try.func37,Try.ntmps37
  go_upto_region 1 with fail
  go_quiet (fail)
  go_wp2
  go_ret
  exact ⟨rfl,by first | exact ⟨_,rfl⟩ | exact ⟨_,World.drewN_drewN _ _ _⟩⟩
set_option maxHeartbeats 4000000 in
theorem over39 {n:Nat} {w0 w:World} {p:Nat} {g:Gr} {R:Raw} {ws:List Wo} {A:Ra} {i:Nat} {e:Int} (h:Rd n w0 w p g R ws A i e) :
  Calls Try.prog 39 #[.pointer (some ⟨p,0,none⟩)] w fun en w'=>en=.returned (.bool (overR (ws.drop i)))∧∃ m,w'=w.drewN m:=by
 have c14:=h.sp.sn.c14
 have c19:=h.c19
 have hL:=h.sp.sn.words
 have hi:=h.hi
 by_cases hlt:i < ws.length
 ·have ho:overR (ws.drop i)=decide ((wAt ws i).kind=6):=by rw [drop_at hlt]; rfl
  rw [ho]
  obtain ⟨b,off,z1,m1,z2,m2,ha,h4,-⟩:=h.sp.sn.word hlt
  rw [ha] at c14
  clear h ha ho
  generalize (wAt ws i).kind=K at *
  have hne:((i:Int) == (ws.length:Int))=false:=by simp; omega
  have hne2:¬ (i:Int)=(ws.length:Int):=by omega
  generalize ws.length=L at *
  generalize R.cw=cw at *
  by_cases hK:K=6
  ·subst hK
   go_enter Try.func39,Try.ntmps39
   go_upto_region 1 with fail
   go_quiet (fail)
   go_wp2
   go_ret
   exact ⟨retB (by simp),by first | exact ⟨_,rfl⟩ | exact ⟨_,World.drewN_drewN _ _ _⟩⟩
  ·have hk2:(K == 6)=false:=by simpa using hK
   go_enter Try.func39,Try.ntmps39
   go_upto_region 1 with fail
   go_quiet (fail)
   go_wp2
   go_ret
   exact ⟨retB (by simp [hK]),by first | exact ⟨_,rfl⟩ | exact ⟨_,World.drewN_drewN _ _ _⟩⟩
 ·rw [drop_end hlt]
  obtain rfl:i=ws.length:=by omega
  clear h
  generalize ws.length=L at *
  generalize R.aw=aw at *
  generalize R.cw=cw at *
  go_enter Try.func39,Try.ntmps39
  go_upto_region 1 with fail
  go_quiet (fail)
  go_wp2
  go_ret
  exact ⟨rfl,by first | exact ⟨_,rfl⟩ | exact ⟨_,World.drewN_drewN _ _ _⟩⟩
abbrev faultP (er at':Int):Ending:=.panicked [{ v:=.iface 28 (.agg #[.int .i64 er,.int .i64 at',.int .i64 0]),recovered:=false }]
set_option maxHeartbeats 4000000 in
theorem throw42 (er at':Int) (w:World):Calls Try.prog 42 #[.int .i64 er,.int .i64 at'] w fun en w'=>en=faultP er at'∧w'=w:=by
 go_enter Try.func42,Try.ntmps42
 go_wp2
 exact ⟨rfl,rfl,rfl⟩
set_option maxHeartbeats 4000000 in
theorem refuse22 {n:Nat} {w0 w:World} {p:Nat} {g:Gr} {R:Raw} {ws:List Wo} {A:Ra} {i:Nat} {e:Int} (h:Rd n w0 w p g R ws A i e) (er:Int) :
  Calls Try.prog 22 #[.pointer (some ⟨p,0,none⟩),.int .i64 er] w fun en w'=>en=faultP er (placeR e (ws.drop i))∧Below w.heap.size w w':=by
 have H1:=hide (place37 h)
 have H2:=hide (fun W=>throw42 er (placeR e (ws.drop i)) W)
 have HB:=hide (fun m=>drewN_below (Below.refl w.heap.size w) m)
 clear h
 generalize placeR e (ws.drop i)=P at *
 go_enter Try.func22,Try.ntmps22
 go_wp2_with fail
 refine H1.out.mono ?_
 rintro en w1 ⟨rfl,m,rfl⟩
 go_wp2_with fail
 refine (H2.out _).mono ?_
 rintro en w1 ⟨rfl,rfl⟩
 go_wp2
 exact ⟨rfl,rfl,HB.out m⟩
set_option maxHeartbeats 4000000 in
theorem enter33 {n:Nat} {w0 w:World} {p:Nat} {g:Gr} {R:Raw} {ws:List Wo} {A:Ra} {i:Nat} {e:Int} (h:Rd n w0 w p g R ws A i e) (d:Nat) (hd:d≤25) :
  Calls Try.prog 33 #[.pointer (some ⟨p,0,none⟩),.int .i64 ((25 - d:Nat):Int)] w fun en w'=>(if d=0 then en=faultP 15 (placeR e (ws.drop i)) else en=.returned (.tuple #[]))∧Below w.heap.size w w':=by
 by_cases h0:d=0
 ·subst h0
  have H1:=hide (refuse22 h 15)
  clear h
  generalize placeR e (ws.drop i)=P at *
  simp only [Nat.sub_zero,if_true]
  go_enter Try.func33,Try.ntmps33
  go_wp2_with fail
  refine H1.out.mono ?_
  rintro en w1 ⟨rfl,hb⟩
  go_wp2
  exact ⟨rfl,rfl,hb⟩
 ·have hc:((25 - d:Nat):Int)≤24:=by omega
  have HR:Hid (Below w.heap.size w w):=Below.refl _ _
  have h2:(if d=0 then (fun en:Ending=>en=faultP 15 (placeR e (ws.drop i))) else fun en=>en=.returned (.tuple #[]))=fun en=>en=.returned (.tuple #[]):=if_neg h0
  simp only [if_neg h0]
  clear h h2
  generalize ((25 - d:Nat):Int)=D at *
  go_enter Try.func33,Try.ntmps33
  go_wp2
  first
   | exact bodyPost_ret (v:=.tuple #[]) (by simp [results,Try.results33,go_sem]) rfl ⟨rfl,HR.out⟩
   | (go_end0; exact ⟨rfl,HR.out⟩)
set_option maxHeartbeats 4000000 in
theorem begins34 {n:Nat} {w0 w:World} {p:Nat} {g:Gr} {R:Raw} {ws:List Wo} {A:Ra} {i:Nat} {e:Int} (h:Rd n w0 w p g R ws A i e) (q:Bool) :
  Calls Try.prog 34 #[.pointer (some ⟨p,0,none⟩),.bool q] w fun en w'=>en=.returned (.bool (!decide (wholeR g q (ws.drop i)=0)))∧∃ m,w'=w.drewN m:=by
 have hi:=h.hi
 have hL:=h.sp.sn.words
 obtain ⟨b',off,ha,hb,-,hc⟩:=h.sp.row q 0 (by cases q <;> simp) i (Nat.zero_le _) (by omega)
 have c19:=h.c19
 have H1:=hide (fun m=>fns65 (h.sp.next (drewN_below (Below.refl w.heap.size w) m)) q)
 rw [ha] at H1
 have hE:=hide (show decide (0 < wholeV g q ws i)=!decide (wholeR g q (ws.drop i)=0) by
  have:=enc_pos i (wholeR g q (ws.drop i))
  unfold wholeV
  by_cases h0:wholeR g q (ws.drop i)=0
  ·simp [h0,enc]
  ·have h1:=this.2 h0
   simp [h0]; omega)
 have hlt:i < ws.length+1:=by omega
 clear h ha
 generalize wholeV g q ws i=V at *
 generalize (!decide (wholeR g q (ws.drop i)=0))=RES at *
 generalize ws.length+1=M at *
 generalize A.rm q=km at *
 go_enter Try.func34,Try.ntmps34
 go_upto_region 1 with fail
 go_quiet ((go_at_call 65; first | exact Calls.quiet_of_same (H1.out 0) | exact Calls.quiet_of_same (H1.out _)))
 go_wp2
 go_ret
 exact ⟨retB hE.out,by first | exact ⟨_,rfl⟩ | exact ⟨_,World.drewN_drewN _ _ _⟩⟩
def GivesC (n:Nat) (w0 w:World) (p:Nat) (g:Gr) (R:Raw) (ws:List Wo) (A:Ra) (i:Nat) (e:Int) (t:ByteArray) (en:Ending) (w':World):Prop :=
 But (·=p) w w'∧if isT 6 t (ws.drop i) then en=.returned (.tuple #[])∧i+1≤ws.length∧Rd n w0 w' p g R ws A (i+1) e else en=faultP 2 (placeR e (ws.drop i))
set_option maxHeartbeats 4000000 in
theorem close70 {n:Nat} {w0 w:World} {p:Nat} {g:Gr} {R:Raw} {ws:List Wo} {A:Ra} {i:Nat} {e:Int} (h:Rd n w0 w p g R ws A i e) (t:ByteArray) :
  Calls Try.prog 70 #[.pointer (some ⟨p,0,none⟩),.string t] w fun en w'=>GivesC n w0 w p g R ws A i e t en w':=by
 have hi:=h.hi
 have hL:=h.sp.sn.words
 have c19n:=fun m=>(h.next (drewN_below (Below.refl w.heap.size w) m)).c19
 have c19:=h.c19
 have H1:=hide (fun m=>is69 (h.next (drewN_below (Below.refl w.heap.size w) m)).sp.sn i 6 t (by omega))
 have HR:=hide (fun m=>h.next (drewN_below (Below.refl w.heap.size w) m))
 have HB:=hide (fun m=>drewN_below (Below.refl w.heap.size w) m)
 have H2:=hide (fun m=>refuse22 (h.next (drewN_below (Below.refl w.heap.size w) m)) 2)
 unfold GivesC
 cases hT:isT 6 t (ws.drop i) with
 | true =>
  have hlt:i < ws.length:=by
   rcases Nat.lt_or_ge i ws.length with h | h
   ·exact h
   ·rw [drop_end (by omega)] at hT; cases hT
  simp only [hT] at H1
  have fzn:=fun m=>(HR.out m).fz
  have HG:Hid (∀ m,But (·=p) w ((w.drewN m).setCell ⟨p,19,none⟩ (.int .i64 ((i:Int)+1)))∧i+1≤ws.length∧Rd n w0 ((w.drewN m).setCell ⟨p,19,none⟩ (.int .i64 ((i:Int)+1))) p g R ws A (i+1) e):=fun m =>
   have hc:((i+1:Nat):Int)=(i:Int)+1:=by simp
   ⟨hc ▸ (But.of (HB.out m)).trans ((HR.out m).moved (i+1)) (fun j _ hj=>hj),hlt,hc ▸ (HR.out m).move (i+1) hlt⟩
  clear h H2 hT HR HB
  simp only [if_true]
  go_enter Try.func70,Try.ntmps70
  go_upto_region 0 with fail
  go_quiet ((go_at_call 69; first | exact Calls.quiet_of_same (H1.out 0) | exact Calls.quiet_of_same (H1.out _)))
  go_wp2
  first
   | exact bodyPost_ret (v:=.tuple #[]) (by simp [results,Try.results70,go_sem]) rfl ⟨(HG.out _).1,rfl,(HG.out _).2⟩
   | (go_end0; exact ⟨(HG.out _).1,rfl,(HG.out _).2⟩)
 | false =>
  simp only [hT] at H1
  have HG:=hide (fun m w' (hb:Below (w.drewN m).heap.size (w.drewN m) w')=>(But.of (T:=(·=p)) (HB.out m)).trans (But.of (T:=(·=p)) hb) (fun j _ hj=>hj))
  clear h hT HR HB
  generalize placeR e (ws.drop i)=P at *
  simp only [Bool.false_eq_true,if_false]
  go_enter Try.func70,Try.ntmps70
  go_upto_region 0 with fail
  go_quiet ((go_at_call 69; first | exact Calls.quiet_of_same (H1.out 0) | exact Calls.quiet_of_same (H1.out _)))
  go_wp2_with fail
  refine (H2.out _).mono ?_
  rintro en w1 ⟨rfl,hb⟩
  go_wp2
  exact ⟨rfl,HG.out _ _ hb,rfl⟩
end Go.Proofs.Ytnaejfoighmfeaa
namespace Go.Proofs.Ytnaejfoighmfeaa
open Go.ChangeShapes Go.WideShapes Go.ChangeAt Go.RowKit
set_option maxRecDepth 100000
set_option linter.unusedVariables false
set_option linter.unusedSimpArgs false
def Kp (B lo hi:Nat) (w W:World):Prop:=Below B w W∧∀ k,lo≤k→k < hi→W.heap[k]?=w.heap[k]?
theorem Kp.refl (B lo hi:Nat) (w:World):Kp B lo hi w w:=⟨Below.refl _ _,fun _ _ _=>rfl⟩
theorem Kp.trans {B lo hi:Nat} {a b c:World} (h:Kp B lo hi a b) (k:Kp B lo hi b c):Kp B lo hi a c:=⟨h.1.trans k.1,fun j h1 h2=>(k.2 j h1 h2).trans (h.2 j h1 h2)⟩
theorem Kp.less {B lo hi lo' hi':Nat} {w W:World} (h:Kp B lo hi w W) (hl:lo≤lo') (hh:hi'≤hi):Kp B lo' hi' w W:=⟨h.1,fun k h1 h2=>h.2 k (by omega) (by omega)⟩
theorem Kp.of {B lo hi:Nat} {w W:World} (h:Below w.heap.size w W) (hB:B≤w.heap.size) (hh:hi≤w.heap.size):Kp B lo hi w W:=⟨h.mono hB,fun k _ h2=>h.block k (by omega)⟩
theorem Kp.but {B lo hi:Nat} {T:Nat→Prop} {w W:World} (h:But T w W) (hB:B≤w.heap.size) (hh:hi≤w.heap.size) (hT:∀ k,T k→B≤k∧(k < lo ∨ hi≤k)):Kp B lo hi w W :=
 ⟨h.below hB fun k t=>(hT k t).1,fun k h1 h2=>h.block (by omega) (fun t=>by have:=(hT k t).2; omega)⟩
def LitS (n B lo hi:Nat) (w:World) (x:Ar) (v:Value):Prop:=∀ W,Kp B lo hi w W→ArIn n 0 W x v
def KpD (B:Nat) (D:Nat→Prop) (w W:World):Prop:=Below B w W∧∀ k,D k→W.heap[k]?=w.heap[k]?
def Iv (lo hi k:Nat):Prop:=lo≤k∧k < hi
theorem KpD.refl (B:Nat) (D:Nat→Prop) (w:World):KpD B D w w:=⟨Below.refl _ _,fun _ _=>rfl⟩
theorem KpD.trans {B:Nat} {D:Nat→Prop} {a b c:World} (h:KpD B D a b) (k:KpD B D b c):KpD B D a c:=⟨h.1.trans k.1,fun j hj=>(k.2 j hj).trans (h.2 j hj)⟩
theorem KpD.less {B:Nat} {D D':Nat→Prop} {w W:World} (h:KpD B D w W) (hl:∀ k,D' k→D k):KpD B D' w W:=⟨h.1,fun k hk=>h.2 k (hl k hk)⟩
theorem KpD.of {B:Nat} {D:Nat→Prop} {w W:World} (h:Below w.heap.size w W) (hB:B≤w.heap.size) (hD:∀ k,D k→k < w.heap.size):KpD B D w W:=⟨h.mono hB,fun k hk=>h.block k (hD k hk)⟩
theorem KpD.but {B:Nat} {D T:Nat→Prop} {w W:World} (h:But T w W) (hB:B≤w.heap.size) (hD:∀ k,D k→k < w.heap.size) (hT:∀ k,T k→B≤k∧¬ D k):KpD B D w W :=
 ⟨h.below hB fun k t=>(hT k t).1,fun k hk=>h.block (hD k hk) (fun t=>(hT k t).2 hk)⟩
theorem Kp.d {B lo hi:Nat} {w W:World} (h:Kp B lo hi w W):KpD B (Iv lo hi) w W:=⟨h.1,fun k hk=>h.2 k hk.1 hk.2⟩
theorem KpD.iv {B lo hi:Nat} {w W:World} (h:KpD B (Iv lo hi) w W):Kp B lo hi w W:=⟨h.1,fun k h1 h2=>h.2 k ⟨h1,h2⟩⟩
def LitD (n B:Nat) (D:Nat→Prop) (w:World) (x:Ar) (v:Value):Prop:=∀ W,KpD B D w W→ArIn n 0 W x v
theorem LitS.d {n B lo hi:Nat} {w:World} {x:Ar} {v:Value} (h:LitS n B lo hi w x v):LitD n B (Iv lo hi) w x v:=fun W hW=>h W hW.iv
def TrK (P:(Nat→Prop)→World→Nd→Value→Prop) (D:Nat→Prop) (w:World) (ks:List Nd) (ak:Option Addr):Prop :=
 ks=[] ∨ ∃ (b:Nat) (F:Nat→Nat→Prop),ak=some ⟨b,0,none⟩∧D b∧b < w.heap.size∧(∀ o,w.frozen? ⟨b,o,none⟩=false) ∧
  (∀ j,j < ks.length→(∀ k,F j k→D k∧k ≠ b)∧∀ i,i < ks.length→i ≠ j→∀ k,F i k→¬ F j k) ∧
  ∀ j,j < ks.length→∃ d1 e1 d2 e2 dk ek,Seven w b (j * 7) (nAt ks j) d1 e1 d2 e2 dk ek∧P (F j) w (nAt ks j) (ndV (nAt ks j) d1 e1 d2 e2 dk ek)
def TrD (n B:Nat):Nat→(Nat→Prop)→World→Nd→Value→Prop
 | 0,_,_,_,_=>False
 | m+1,D,w,x,v=>∃ a1 c1 a2 c2 ak ck,v=ndV x a1 c1 a2 c2 ak ck∧LitD n B D w x.lit (.agg #[.slice a1 x.lit.shape.length c1,.slice a2 x.lit.cells.length c2])∧(x.kids.length≤1256584717421∧(x.kids=[] ∨ x.lit=.mk [] []))∧x.name.size≤140737488355328∧TrK (TrD n B m) D w x.kids ak
def Tr (n B m lo hi:Nat) (w:World) (x:Nd) (v:Value):Prop:=TrD n B m (Iv lo hi) w x v
theorem frozen_block {w W:World} {b:Nat} (h:W.heap[b]?=w.heap[b]?) (o:Nat):W.frozen? ⟨b,o,none⟩=w.frozen? ⟨b,o,none⟩:=by
 unfold World.frozen?
 rw [h]
theorem Seven.block {w W:World} {b o:Nat} {x:Nd} {a1 a2 ak:Option Addr} {c1 c2 ck:Nat} (h:Seven w b o x a1 c1 a2 c2 ak ck) (hk:W.heap[b]?=w.heap[b]?):Seven W b o x a1 c1 a2 c2 ak ck:=by
 obtain ⟨h0,h1,h2,h3,h4,h5,h6⟩:=h
 have c:∀ o,W.cell? ⟨b,o,none⟩=w.cell? ⟨b,o,none⟩:=fun o=>World.cell?_of_block (w:=w) (a:=⟨b,o,none⟩) hk
 exact ⟨(c _).trans h0,(c _).trans h1,(c _).trans h2,(c _).trans h3,(c _).trans h4,(c _).trans h5,(c _).trans h6⟩
theorem TrK.map {P Q:(Nat→Prop)→World→Nd→Value→Prop} {D:Nat→Prop} {w W:World} {ks:List Nd} {ak:Option Addr} (h:TrK P D w ks ak) (hs:w.heap.size≤W.heap.size) (hk:∀ k,D k→W.heap[k]?=w.heap[k]?)
  (hPQ:∀ F x v,(∀ k,F k→D k)→P F w x v→Q F W x v):TrK Q D W ks ak:=by
 rcases h with h | ⟨b,F,ha,h1,h3,hf,h4,h5⟩
 ·exact Or.inl h
 ·refine Or.inr ⟨b,F,ha,h1,Nat.lt_of_lt_of_le h3 hs,fun o=>(frozen_block (hk b h1) o).trans (hf o),h4,fun j hj=>?_⟩
  obtain ⟨d1,e1,d2,e2,dk,ek,h6,h7⟩:=h5 j hj
  exact ⟨d1,e1,d2,e2,dk,ek,h6.block (hk b h1),hPQ _ _ _ (fun k hk=>((h4 j hj).1 k hk).1) h7⟩
theorem TrD.keep {n B m:Nat} {D:Nat→Prop} {w W:World} {x:Nd} {v:Value} (h:TrD n B m D w x v) (hk:KpD B D w W):TrD n B m D W x v:=by
 induction m generalizing D x v with
 | zero=>exact h.elim
 | succ m ih =>
  obtain ⟨a1,c1,a2,c2,ak,ck,hv,hA,hl,hs,hc⟩:=h
  exact ⟨a1,c1,a2,c2,ak,ck,hv,fun W' hW'=>hA W' (hk.trans hW'),hl,hs,hc.map hk.1.size hk.2 fun F x v h1 hP=>ih hP (hk.less h1)⟩
theorem TrD.wide {n B m:Nat} {D D':Nat→Prop} {w:World} {x:Nd} {v:Value} (h:TrD n B m D w x v) (hl:∀ k,D k→D' k):TrD n B m D' w x v:=by
 cases m with
 | zero=>exact h.elim
 | succ m =>
  obtain ⟨a1,c1,a2,c2,ak,ck,hv,hA,hl',hs,hc⟩:=h
  refine ⟨a1,c1,a2,c2,ak,ck,hv,fun W' hW'=>hA W' (hW'.less hl),hl',hs,?_⟩
  rcases hc with hc | ⟨b,F,ha,h1,h3,hf,h4,h5⟩
  ·exact Or.inl hc
  ·exact Or.inr ⟨b,F,ha,hl b h1,h3,hf,fun j hj=>⟨fun k hk=>⟨hl k ((h4 j hj).1 k hk).1,((h4 j hj).1 k hk).2⟩,(h4 j hj).2⟩,h5⟩
theorem TrD.deeper {n B m:Nat} {D:Nat→Prop} {w:World} {x:Nd} {v:Value} (h:TrD n B m D w x v):TrD n B (m+1) D w x v:=by
 induction m generalizing D x v with
 | zero=>exact h.elim
 | succ m ih =>
  obtain ⟨a1,c1,a2,c2,ak,ck,hv,hA,hl,hs,hc⟩:=h
  exact ⟨a1,c1,a2,c2,ak,ck,hv,hA,hl,hs,hc.map (Nat.le_refl _) (fun _ _=>rfl) fun F x v _ hP=>ih hP⟩
theorem TrD.deep {n B m m':Nat} {D:Nat→Prop} {w:World} {x:Nd} {v:Value} (h:TrD n B m D w x v) (hm:m≤m'):TrD n B m' D w x v:=by
 induction hm with
 | refl=>exact h
 | step _ ih=>exact ih.deeper
theorem TrD.ndIn {n B m:Nat} {D:Nat→Prop} {w:World} {x:Nd} {v:Value} (h:TrD n B m D w x v):NdIn m n 0 w x v:=by
 induction m generalizing D x v with
 | zero=>exact h.elim
 | succ m ih =>
  obtain ⟨a1,c1,a2,c2,ak,ck,hv,hA,hl,hs,hc⟩:=h
  refine ⟨a1,c1,a2,c2,ak,ck,hv,hA w (KpD.refl _ _ _),hl.1,hs,?_⟩
  rcases hc with hc | ⟨b,F,ha,h1,h3,hf,h4,h5⟩
  ·exact Or.inl hc
  ·refine Or.inr ⟨b,0,ha,Nat.zero_le _,h3,fun j hj=>?_⟩
   obtain ⟨d1,e1,d2,e2,dk,ek,h6,h7⟩:=h5 j hj
   exact ⟨d1,e1,d2,e2,dk,ek,by rw [Nat.zero_add]; exact h6,ih h7⟩
theorem TrD.form {n B m:Nat} {D:Nat→Prop} {w:World} {x:Nd} {v:Value} (h:TrD n B m D w x v):∃ m',m=m'+1∧∃ a1 c1 a2 c2 ak ck,v=.agg #[.int .i64 x.kind,.int .i64 x.op,.string x.name,.slice a1 x.lit.shape.length c1,.slice a2 x.lit.cells.length c2,.slice ak x.kids.length ck,.int .i64 x.pos]∧LitD n B D w x.lit (.agg #[.slice a1 x.lit.shape.length c1,.slice a2 x.lit.cells.length c2])∧x.kids.length≤1256584717421∧x.name.size≤140737488355328∧TrK (TrD n B m') D w x.kids ak:=by
 cases m with
 | zero=>exact h.elim
 | succ m =>
  obtain ⟨a1,c1,a2,c2,ak,ck,hv,hA,hl,hs,hc⟩:=h
  exact ⟨m,rfl,a1,c1,a2,c2,ak,ck,hv,hA,hl.1,hs,hc⟩
theorem Tr.keep {n B m lo hi:Nat} {w W:World} {x:Nd} {v:Value} (h:Tr n B m lo hi w x v) (hk:Kp B lo hi w W):Tr n B m lo hi W x v:=TrD.keep h hk.d
theorem Tr.wide {n B m lo hi lo' hi':Nat} {w:World} {x:Nd} {v:Value} (h:Tr n B m lo hi w x v) (hl:lo'≤lo) (hh:hi≤hi'):Tr n B m lo' hi' w x v:=TrD.wide h fun k hk=>⟨Nat.le_trans hl hk.1,Nat.lt_of_lt_of_le hk.2 hh⟩
theorem Tr.form {n B m lo hi:Nat} {w:World} {x:Nd} {v:Value} (h:Tr n B m lo hi w x v):∃ m',m=m'+1∧∃ a1 c1 a2 c2 ak ck,v=.agg #[.int .i64 x.kind,.int .i64 x.op,.string x.name,.slice a1 x.lit.shape.length c1,.slice a2 x.lit.cells.length c2,.slice ak x.kids.length ck,.int .i64 x.pos]∧LitD n B (Iv lo hi) w x.lit (.agg #[.slice a1 x.lit.shape.length c1,.slice a2 x.lit.cells.length c2])∧x.kids.length≤1256584717421∧x.name.size≤140737488355328∧TrK (TrD n B m') (Iv lo hi) w x.kids ak:=TrD.form h
theorem LitD.nil (n B:Nat) (D:Nat→Prop) (w:World):LitD (n+1) B D w (.mk [] []) (.agg #[.slice none 0 0,.slice none 0 0]):=fun W _ =>
 ⟨none,0,none,0,rfl,⟨by simp [Ar.shape],Or.inl rfl⟩,by simp [Ar.cells],Or.inl rfl⟩
theorem Tr.leaf (n B lo hi:Nat) (w:World) (k o:Int) (s:ByteArray) (p:Int) (hs:s.size≤140737488355328):Tr (n+1) B 1 lo hi w (node k o s [] p) (.agg #[.int .i64 k,.int .i64 o,.string s,.slice none 0 0,.slice none 0 0,.slice none 0 0,.int .i64 p]) :=
 ⟨none,0,none,0,none,0,rfl,LitD.nil n B _ w,by simp [node,Nd.kids],hs,Or.inl rfl⟩
theorem TrD.put {n B m:Nat} {D:Nat→Prop} {w:World} {ks:List Nd} {b ck:Nat} (k o:Int) (s:ByteArray) (p:Int) (hs:s.size≤140737488355328) (hl:ks.length≤100000) (h:TrK (TrD (n+1) B m) D w ks (some ⟨b,0,none⟩)):TrD (n+1) B (m+1) D w (node k o s ks p) (.agg #[.int .i64 k,.int .i64 o,.string s,.slice none 0 0,.slice none 0 0,.slice (some ⟨b,0,none⟩) ks.length ck,.int .i64 p]) :=
 ⟨none,0,none,0,some ⟨b,0,none⟩,ck,rfl,LitD.nil n B D w,⟨by simp [node,Nd.kids]; omega,Or.inr rfl⟩,hs,h⟩
theorem trk2 {n B m:Nat} {D E:Nat→Prop} {w:World} {x y:Nd} {a1 a2 ak b1 b2 bk:Option Addr} {c1 c2 ck d1 d2 dk:Nat} (hB:B≤w.heap.size) (hD:∀ k,D k→k < w.heap.size) (hE:∀ k,E k→k < w.heap.size) (hne:∀ k,D k→¬ E k)
  (hx:TrD n B m D w x (ndV x a1 c1 a2 c2 ak ck)) (hy:TrD n B m E w y (ndV y b1 d1 b2 d2 bk dk)) (t:TypeId) :
  TrK (TrD n B m) (fun k=>D k ∨ E k ∨ k=w.heap.size) (w.alloc (.cells #[.int .i64 x.kind,.int .i64 x.op,.string x.name,.slice a1 x.lit.shape.length c1,.slice a2 x.lit.cells.length c2,.slice ak x.kids.length ck,.int .i64 x.pos,.int .i64 y.kind,.int .i64 y.op,.string y.name,.slice b1 y.lit.shape.length d1,.slice b2 y.lit.cells.length d2,.slice bk y.kids.length dk,.int .i64 y.pos] t)) [x,y] (some ⟨w.heap.size,0,none⟩):=by
 have hb:=one_alloc w (.cells #[.int .i64 x.kind,.int .i64 x.op,.string x.name,.slice a1 x.lit.shape.length c1,.slice a2 x.lit.cells.length c2,.slice ak x.kids.length ck,.int .i64 x.pos,.int .i64 y.kind,.int .i64 y.op,.string y.name,.slice b1 y.lit.shape.length d1,.slice b2 y.lit.cells.length d2,.slice bk y.kids.length dk,.int .i64 y.pos] t)
 refine Or.inr ⟨w.heap.size,fun j=>if j=0 then D else E,rfl,Or.inr (Or.inr rfl),by simp,fun o=>frozen_new _ _ _ _,fun j hj=>?_,fun j hj=>?_⟩
 ·have:j=0 ∨ j=1:=by simp at hj; omega
  rcases this with rfl | rfl
  ·refine ⟨fun k hk=>⟨Or.inl hk,by have:=hD k hk; omega⟩,fun i hi hij k hk hk2=>?_⟩
   have:i=1:=by simp at hi; omega
   subst this
   exact hne k hk2 hk
  ·refine ⟨fun k hk=>⟨Or.inr (Or.inl hk),by have:=hE k hk; omega⟩,fun i hi hij k hk hk2=>?_⟩
   have:i=0:=by simp at hi; omega
   subst this
   exact hne k hk hk2
 ·have:j=0 ∨ j=1:=by simp at hj; omega
  rcases this with rfl | rfl
  ·exact ⟨a1,c1,a2,c2,ak,ck,⟨cell_new0 w _ t 0 _ rfl,cell_new0 w _ t 1 _ rfl,cell_new0 w _ t 2 _ rfl,cell_new0 w _ t 3 _ rfl,cell_new0 w _ t 4 _ rfl,cell_new0 w _ t 5 _ rfl,cell_new0 w _ t 6 _ rfl⟩,hx.keep (KpD.of hb hB hD)⟩
  ·exact ⟨b1,d1,b2,d2,bk,dk,⟨cell_new0 w _ t 7 _ rfl,cell_new0 w _ t 8 _ rfl,cell_new0 w _ t 9 _ rfl,cell_new0 w _ t 10 _ rfl,cell_new0 w _ t 11 _ rfl,cell_new0 w _ t 12 _ rfl,cell_new0 w _ t 13 _ rfl⟩,hy.keep (KpD.of hb hB hE)⟩
end Go.Proofs.Ytnaejfoighmfeaa
namespace Go.Proofs.Ytnaejfoighmfeaa
open Go.ChangeShapes Go.WideShapes Go.ChangeAt Go.RowKit
set_option maxRecDepth 100000
set_option linter.unusedVariables false
set_option linter.unusedSimpArgs false
theorem run_append_none_any {P:Program} {w:World} (base:Nat) (t ty e:TypeId) (i:TypeInfo) (size:Nat) (ht:P.underlying t=some (.slice e)) (hi:P.info? e=some i)
  (v:Value) (n c:Nat) (xs:List Value) (hown:w.ownsRow base e size v n xs) :
  (Builtin.append_ #[t,t] ty #[v,.slice none 0 c]).run P w=.ok v w:=by
 rcases hown.2 with ⟨rfl,rfl⟩ | ⟨g,cap,cur,rfl,_,_,hnc,_⟩
 ·simp [Builtin.append_,run_underlying ht,sizeOf,typeInfo,hi,Builtin.lenOf,Builtin.firstCells]
 ·simp [Builtin.append_,run_underlying ht,sizeOf,typeInfo,hi,Builtin.lenOf,Builtin.firstCells,hnc,storeCells]
theorem wpList_append_run {P:Program} {w:World} {ops:Array Oper} {rest:List Oper} {o:Oper} {a:Act} {Q:Exit→Act→World→Prop} (hw:Region.wanted o (yielded ops a.tmps)=true) (s x:Operand) (t u:TypeId)
  (ho:o.op=.call { callee:=.builtin .append,args:=#[s,x],argTypes:=#[t,u] }) (v1 v2:Value) (hs:a.eval s=v1) (hx:a.eval x=v2) (v':Value) (w':World)
  (hrun:(Builtin.append_ #[t,u] o.type #[v1,v2]).run P w=.ok v' w') (h:wpList P ops Q rest (a.put o.dst v') w'):wpList P ops Q (o :: rest) a w:=by
 refine BigFrame.wpList_want hw fun K hK=>?_
 unfold Oper.wp
 simp only [execOp,ho,resolve,invoke,builtin,Sem.run_bind,Sem.run_pure,Result.andThen_ok,List.map_toArray,List.map_cons,List.map_nil,hs,hx,hrun]
 exact hK _ _ h
def Lies (w:World) (ad:Option Addr) (news:List Value):Prop:=(news=[] ∨ ∃ p,ad=some p∧p.block < w.heap.size∧∀ j u,news[j]?=some u→w.cell? (p.add j)=some u)∧∀ u ∈ news,u.oneCell'=true
theorem run_append_any {P:Program} {w:World} (base:Nat) (t ty e:TypeId) (i:TypeInfo) (z:Value) (size bytes:Nat) (ht:P.underlying t=some (.slice e)) (hi:P.info? e=some i) (hz:i.zero=some z)
  (hsize:i.size=size) (hby:i.bytes=bytes) (hzs:z.cells.size=size) (hsz:0 < size)
  (v:Value) (n:Nat) (xs:List Value) (hown:w.ownsRow base e size v n xs)
  (ad:Option Addr) (m c:Nat) (news:List Value) (hl:news.length=m * size) (hnews:Lies w ad news)
  (h63:n+m≤maxLen) (hbytes:(n+m) * bytes≤140737488355328) (hbase:base≤w.heap.size) :
  ∃ v' w',(Builtin.append_ #[t,t] ty #[v,.slice ad m c]).run P w=.ok v' w'∧w'.ownsRow base e size v' (n+m) (xs ++ news)∧Below base w w':=by
 cases ad with
 | none =>
  have hn:news=[]:=by
   rcases hnews.1 with h | ⟨p,hp,-⟩
   ·exact h
   ·cases hp
  subst hn
  have hm:m=0:=by
   rcases Nat.eq_zero_or_pos m with h | h
   ·exact h
   ·have:=Nat.mul_pos h hsz; simp at hl; omega
  subst hm
  exact ⟨v,w,run_append_none_any base t ty e i size ht hi v n c xs hown,by simpa using hown,Below.refl _ _⟩
 | some p =>
  have hc:∀ j u,news[j]?=some u→w.cell? (p.add j)=some u:=by
   rcases hnews.1 with h | ⟨q,hq,-,h⟩
   ·subst h; intro j u hj; simp at hj
   ·cases hq; exact h
  obtain ⟨v',w',hr,h2,h3,-⟩:=run_append_own (P:=P) w base t ty e i z size bytes ht hi hz hsize hby hzs hsz v n xs hown p m c news hl hc hnews.2 h63 hbytes hbase
  exact ⟨v',w',hr,h2,(Below.refl _ _).grown h3 hbase (fun q hq=>(hown.lt q hq).1)⟩
theorem wpList_append_any {P:Program} {w:World} {ops:Array Oper} {rest:List Oper} {o:Oper} {a:Act} {Q:Exit→Act→World→Prop} (hgd:o.guard=none) (s x:Operand) (t:TypeId)
  (ho:o.op=.call { callee:=.builtin .append,args:=#[s,x],argTypes:=#[t,t] })
  (base:Nat) (e:TypeId) (i:TypeInfo) (z:Value) (size bytes:Nat) (ht:P.underlying t=some (.slice e)) (hi:P.info? e=some i) (hz:i.zero=some z)
  (hsize:i.size=size) (hby:i.bytes=bytes) (hzs:z.cells.size=size) (hsz:0 < size)
  (v:Value) (n:Nat) (xs:List Value) (hs:a.eval s=v) (hown:w.ownsRow base e size v n xs)
  (ad:Option Addr) (m c:Nat) (news:List Value) (hx:a.eval x=.slice ad m c) (hl:news.length=m * size) (hnews:Lies w ad news)
  (h63:n+m≤maxLen) (hbytes:(n+m) * bytes≤140737488355328) (hbase:base≤w.heap.size)
  (h:∀ v' w',w'.ownsRow base e size v' (n+m) (xs ++ news)→Below base w w'→wpList P ops Q rest (a.put o.dst v') w'):wpList P ops Q (o :: rest) a w:=by
 obtain ⟨v',w',hr,h2,h3⟩:=run_append_any base t o.type e i z size bytes ht hi hz hsize hby hzs hsz v n xs hown ad m c news hl hnews h63 hbytes hbase
 exact wpList_append_run (by simp [Region.wanted,hgd]) s x t t ho _ _ hs hx v' w' hr (h v' w' h2 h3)
theorem Lies.next {w w':World} {a:Option Addr} {l:List Value} (h:Lies w a l) (hb:Below w.heap.size w w'):Lies w' a l:=by
 refine ⟨?_,h.2⟩
 rcases h.1 with h1 | ⟨p,hp,hl,h1⟩
 ·exact Or.inl h1
 ·refine Or.inr ⟨p,hp,Nat.lt_of_lt_of_le hl hb.size,fun j u hj=>(hb.cell (p:=p.add j) ?_).trans (h1 j u hj)⟩
  have e:(p.add j).block=p.block:=by unfold Addr.add; split <;> rfl
  rw [e]; exact hl
def OwnR (w w':World) (a:Option Addr) (news:List Value):Prop:=news=[] ∨ ∃ g,a=some ⟨g,0,none⟩∧w.heap.size≤g∧g < w'.heap.size∧∀ j u,news[j]?=some u→w'.cell? ⟨g,j,none⟩=some u
theorem ownR_of {w w':World} {e:TypeId} {size N:Nat} {v:Value} {news:List Value} (h:w'.ownsRow w.heap.size e size v N news):∃ a c,v=.slice a N c∧OwnR w w' a news:=by
 have h':=h
 obtain ⟨h1,h2⟩:=h
 rcases h2 with ⟨rfl,h2⟩ | ⟨g,cap,cur,rfl,hb,hg,-⟩
 ·subst h2
  exact ⟨none,0,rfl,Or.inl (List.eq_nil_of_length_eq_zero (by simpa using h1))⟩
 ·refine ⟨_,cap,rfl,Or.inr ⟨g,rfl,hb,lt_of_block hg,fun j u hu=>?_⟩⟩
  have hj:j < N * size:=by rw [←h1]; exact (List.getElem?_eq_some_iff.1 hu).1
  exact (h'.cellAt j hj).trans hu
set_option maxHeartbeats 4000000 in
theorem clone94 {a:Option Addr} {N cap:Nat} {news:List Value} {w:World} (hl:news.length=N * 1) (hN:N≤10000) (hL:Lies w a news) :
  Calls Try.prog 94 #[.slice a N cap] w fun e w'=>(∃ a' c',e=.returned (.slice a' N c')∧OwnR w w' a' news)∧Below w.heap.size w w':=by
 obtain ⟨i3,hi3,hz30,hz31,hz32⟩:=info3'
 cases a with
 | none =>
  have h0:news=[]:=by
   rcases hL.1 with h | ⟨p,h,-⟩
   ·exact h
   ·cases h
  subst h0
  obtain rfl:N=0:=by simp at hl; omega
  have HO:Hid (OwnR w w none []):=Or.inl rfl
  clear hL hl
  have hq:∀ W,(binOp .eql 33 (.slice none 0 cap) (.slice none 0 0)).run Try.prog W=.ok (.bool true) W:=fun W=>Go.Lib.run_eql_slice_nil W 33 3 none 0 cap 0 0 Try.underlying33
  go_enter Try.func94,Try.ntmps94
  go_wp2
  go_ret
  exact ⟨⟨_,_,rfl,HO.out⟩,Below.refl _ _⟩
 | some p =>
  obtain ⟨W2,e2⟩:∃ W2,w.alloc (.cells #[] 3)=W2:=⟨_,rfl⟩
  have B2:Below w.heap.size w W2:=by rw [←e2]; exact one_alloc _ _
  have HO:Hid (W2.ownsRow w.heap.size 3 1 (.slice (some ⟨w.heap.size,0,none⟩) 0 0) 0 []):=by
   have:=World.ownsRow_lit (base:=w.heap.size) (e:=3) (size:=1) w #[] 0 (Nat.le_refl _) (by unfold maxLen; omega) rfl
   rw [e2] at this
   exact this
  have HL:=hide (hL.next B2)
  have HB2:=hide B2
  clear hL B2
  have hq:∀ W,(binOp .eql 33 (.slice (some p) N cap) (.slice none 0 0)).run Try.prog W=.ok (.bool false) W:=fun W=>Go.Lib.run_eql_slice_nil W 33 3 (some p) N cap 0 0 Try.underlying33
  go_enter Try.func94,Try.ntmps94
  go_wp2_with (at_builtin; refine wpList_append_any rfl _ _ 33 rfl w.heap.size 3 i3 (.int .i64 0) 1 8 Try.underlying33 hi3 hz30 hz31 hz32 rfl (by decide) (.slice (some ⟨w.heap.size,0,none⟩) 0 0) 0 [] rfl HO.out (some p) N cap news rfl hl HL.out ?c3 ?c4 HB2.out.size ?_)
  case c3=>unfold maxLen; omega
  case c4=>omega
  intro v' w3 hown hb
  have hown':w3.ownsRow w.heap.size 3 1 v' N news:=by simpa using hown
  obtain ⟨a',cap',rfl,ho⟩:=ownR_of hown'
  have HF:=hide (And.intro ho (HB2.out.trans hb))
  clear hown hown' hb ho HL
  go_wp2
  go_ret
  exact ⟨⟨_,_,rfl,HF.out.1⟩,HF.out.2⟩
set_option maxHeartbeats 4000000 in
theorem clone95 {a:Option Addr} {N cap:Nat} {news:List Value} {w:World} (hl:news.length=N * 3) (hN:N≤10000) (hL:Lies w a news) :
  Calls Try.prog 95 #[.slice a N cap] w fun e w'=>(∃ a' c',e=.returned (.slice a' N c')∧OwnR w w' a' news)∧Below w.heap.size w w':=by
 obtain ⟨i3,hi3,hz30,hz31,hz32⟩:=info33'
 cases a with
 | none =>
  have h0:news=[]:=by
   rcases hL.1 with h | ⟨p,h,-⟩
   ·exact h
   ·cases h
  subst h0
  obtain rfl:N=0:=by simp at hl; omega
  have HO:Hid (OwnR w w none []):=Or.inl rfl
  clear hL hl
  have hq:∀ W,(binOp .eql 34 (.slice none 0 cap) (.slice none 0 0)).run Try.prog W=.ok (.bool true) W:=fun W=>Go.Lib.run_eql_slice_nil W 34 84 none 0 cap 0 0 Try.underlying34
  go_enter Try.func95,Try.ntmps95
  go_wp2
  go_ret
  exact ⟨⟨_,_,rfl,HO.out⟩,Below.refl _ _⟩
 | some p =>
  obtain ⟨W2,e2⟩:∃ W2,w.alloc (.cells #[] 84)=W2:=⟨_,rfl⟩
  have B2:Below w.heap.size w W2:=by rw [←e2]; exact one_alloc _ _
  have HO:Hid (W2.ownsRow w.heap.size 84 3 (.slice (some ⟨w.heap.size,0,none⟩) 0 0) 0 []):=by
   have:=World.ownsRow_lit (base:=w.heap.size) (e:=84) (size:=3) w #[] 0 (Nat.le_refl _) (by unfold maxLen; omega) rfl
   rw [e2] at this
   exact this
  have HL:=hide (hL.next B2)
  have HB2:=hide B2
  clear hL B2
  have hq:∀ W,(binOp .eql 34 (.slice (some p) N cap) (.slice none 0 0)).run Try.prog W=.ok (.bool false) W:=fun W=>Go.Lib.run_eql_slice_nil W 34 84 (some p) N cap 0 0 Try.underlying34
  go_enter Try.func95,Try.ntmps95
  go_wp2_with (at_builtin; refine wpList_append_any rfl _ _ 34 rfl w.heap.size 84 i3 (.agg #[.int .i64 0,.int .i64 0,.slice none 0 0]) 3 40 Try.underlying34 hi3 hz30 hz31 hz32 rfl (by decide) (.slice (some ⟨w.heap.size,0,none⟩) 0 0) 0 [] rfl HO.out (some p) N cap news rfl hl HL.out ?c3 ?c4 HB2.out.size ?_)
  case c3=>unfold maxLen; omega
  case c4=>omega
  intro v' w3 hown hb
  have hown':w3.ownsRow w.heap.size 84 3 v' N news:=by simpa using hown
  obtain ⟨a',cap',rfl,ho⟩:=ownR_of hown'
  have HF:=hide (And.intro ho (HB2.out.trans hb))
  clear hown hown' hb ho HL
  go_wp2
  go_ret
  exact ⟨⟨_,_,rfl,HF.out.1⟩,HF.out.2⟩
end Go.Proofs.Ytnaejfoighmfeaa
namespace Go.Proofs.Ytnaejfoighmfeaa
open Go.ChangeShapes Go.WideShapes Go.ChangeAt Go.RowKit
set_option maxRecDepth 100000
set_option linter.unusedVariables false
set_option linter.unusedSimpArgs false
theorem row_raw {lo:Nat} {w:World} {a:Option Addr} {zs:List Int} (R:Row lo w a zs):Lies w a (zs.map (Value.int .i64)):=by
 refine ⟨?_,fun u hu=>by obtain ⟨z,-,rfl⟩:=List.mem_map.1 hu; rfl⟩
 rcases R.2 with h | ⟨b,off,ha,-,hb,hc⟩
 ·exact Or.inl (by rw [h]; rfl)
 ·refine Or.inr ⟨⟨b,off,none⟩,ha,hb,fun j u hu=>?_⟩
  have hj:j < zs.length:=by simpa using (List.getElem?_eq_some_iff.1 hu).1
  rw [add_off,hc j hj]
  simp [hj] at hu ⊢
  exact hu
theorem cells_raw {n:Nat} {w:World} {x:Ar} {a1 a2:Option Addr} {c1 c2:Nat} (h:ArIn (n+1) 0 w x (.agg #[.slice a1 x.shape.length c1,.slice a2 x.cells.length c2])) :
  Row 0 w a1 x.shape∧x.cells.length≤5864062014805∧∃ news:List Value,news.length=x.cells.length * 3∧Lies w a2 news∧∀ i,i < x.cells.length→∃ v0 v1 v2,news[i * 3]?=some v0∧news[i * 3+1]?=some v1∧news[i * 3+2]?=some v2∧CeIn (ArIn n 0 w) 0 w (cAt x.cells i) v0 v1 v2:=by
 obtain ⟨d1,e1,d2,e2,hv,R,hl,hc⟩:=h
 cases hv
 refine ⟨R,hl,?_⟩
 rcases hc with hc | ⟨b,off,ha,-,hb,hc⟩
 ·exact ⟨[],by simp [hc],⟨Or.inl rfl,fun u hu=>by cases hu⟩,fun i hi=>by rw [hc] at hi; simp at hi⟩
 ·have hat:∀ j,j < x.cells.length * 3→((List.range (x.cells.length * 3)).map fun j=>(w.cell? ⟨b,off+j,none⟩).getD undef)[j]?=some ((w.cell? ⟨b,off+j,none⟩).getD undef):=fun j hj=>by simp [hj]
  refine ⟨(List.range (x.cells.length * 3)).map fun j=>(w.cell? ⟨b,off+j,none⟩).getD undef,by simp,⟨Or.inr ⟨⟨b,off,none⟩,ha,hb,fun j u hu=>?_⟩,fun u hu=>?_⟩,fun i hi=>?_⟩
  ·have hj:j < x.cells.length * 3:=by simpa using (List.getElem?_eq_some_iff.1 hu).1
   rw [hat j hj] at hu
   obtain ⟨v0,v1,v2,g0,g1,g2,-⟩:=hc (j / 3) (by omega)
   rw [add_off]
   have hm:off+j=off+j / 3 * 3 ∨ off+j=off+j / 3 * 3+1 ∨ off+j=off+j / 3 * 3+2:=by omega
   rcases hm with e | e | e
   ·rw [e,g0] at hu ⊢; exact hu
   ·rw [e,g1] at hu ⊢; exact hu
   ·rw [e,g2] at hu ⊢; exact hu
  ·obtain ⟨j,hj,rfl⟩:=List.mem_map.1 hu
   have hj:j < x.cells.length * 3:=by simpa using hj
   obtain ⟨v0,v1,v2,g0,g1,g2,e0,e1,a,m,e2,-⟩:=hc (j / 3) (by omega)
   have hm:off+j=off+j / 3 * 3 ∨ off+j=off+j / 3 * 3+1 ∨ off+j=off+j / 3 * 3+2:=by omega
   rcases hm with e | e | e
   ·rw [e,g0,e0]; rfl
   ·rw [e,g1,e1]; rfl
   ·rw [e,g2,e2]; rfl
  ·obtain ⟨v0,v1,v2,g0,g1,g2,g3⟩:=hc i hi
   refine ⟨v0,v1,v2,?_,?_,?_,g3⟩
   ·rw [hat _ (by omega),g0]; rfl
   ·rw [hat _ (by omega),show off+(i * 3+1)=off+i * 3+1 by omega,g1]; rfl
   ·rw [hat _ (by omega),show off+(i * 3+2)=off+i * 3+2 by omega,g2]; rfl
theorem OwnR.low {X Y w':World} {a:Option Addr} {l:List Value} (h:OwnR X w' a l) (hl:Y.heap.size≤X.heap.size):OwnR Y w' a l:=by
 rcases h with h | ⟨g,ha,h1,h2⟩
 ·exact Or.inl h
 ·exact Or.inr ⟨g,ha,Nat.le_trans hl h1,h2⟩
theorem lit_of {n:Nat} {w0 w w1 w2:World} {x:Ar} {a1 a2:Option Addr} {k1 k2:Nat} {news:List Value} (ho:Below w0.heap.size w0 w2) (hl1:x.shape.length≤5000) (hl2:x.cells.length≤5000)
  (h1:OwnR w w1 a1 (x.shape.map (Value.int .i64))) (h12:Below w1.heap.size w1 w2) (h2:OwnR w w2 a2 news) (hnl:news.length=x.cells.length * 3)
  (hce:∀ i,i < x.cells.length→∃ v0 v1 v2,news[i * 3]?=some v0∧news[i * 3+1]?=some v1∧news[i * 3+2]?=some v2∧CeIn (ArIn n 0 w0) 0 w0 (cAt x.cells i) v0 v1 v2) :
  LitS (n+1) w0.heap.size w.heap.size w2.heap.size w2 x (.agg #[.slice a1 x.shape.length k1,.slice a2 x.cells.length k2]):=by
 intro W hW
 have hbW:Below w0.heap.size w0 W:=ho.trans (hW.1)
 refine ⟨a1,k1,a2,k2,rfl,⟨by omega,?_⟩,by omega,?_⟩
 ·rcases h1 with h | ⟨g,ha,hg1,hg2,hc⟩
  ·exact Or.inl (by simpa using h)
  ·refine Or.inr ⟨g,0,ha,Nat.zero_le _,Nat.lt_of_lt_of_le hg2 (Nat.le_trans h12.size hW.1.size),fun i hi=>?_⟩
   have e1:=hc i _ (by rw [List.getElem?_map,List.getElem?_eq_getElem hi]; rfl)
   have e2:W.cell? ⟨g,i,none⟩=w1.cell? ⟨g,i,none⟩:=(World.cell?_of_block (w:=w2) (a:=⟨g,i,none⟩) (hW.2 g hg1 (Nat.lt_of_lt_of_le hg2 h12.size))).trans (h12.cell (p:=⟨g,i,none⟩) hg2)
   rw [Nat.zero_add,e2,e1]
   simp [hi]
 ·rcases h2 with h | ⟨g,ha,hg1,hg2,hc⟩
  ·left
   rw [h] at hnl
   exact List.eq_nil_of_length_eq_zero (by simp at hnl; omega)
  ·refine Or.inr ⟨g,0,ha,Nat.zero_le _,Nat.lt_of_lt_of_le hg2 hW.1.size,fun i hi=>?_⟩
   obtain ⟨v0,v1,v2,e0,e1,e2,e3⟩:=hce i hi
   have c:∀ j u,news[j]?=some u→W.cell? ⟨g,j,none⟩=some u:=fun j u hu=>(World.cell?_of_block (w:=w2) (a:=⟨g,j,none⟩) (hW.2 g hg1 hg2)).trans (hc j u hu)
   refine ⟨v0,v1,v2,?_,?_,?_,e3.mono (Nat.le_refl _) hbW fun x v h=>h.next hbW⟩
   ·rw [Nat.zero_add]; exact c _ _ e0
   ·rw [Nat.zero_add]; exact c _ _ e1
   ·rw [Nat.zero_add]; exact c _ _ e2
set_option maxHeartbeats 8000000 in
theorem copied92 {n:Nat} {w0 w:World} {x:Ar} {a1 a2:Option Addr} {c1 c2:Nat} (h:ArIn (n+1) 0 w0 x (.agg #[.slice a1 x.shape.length c1,.slice a2 x.cells.length c2])) (ho:Below w0.heap.size w0 w) (hl1:x.shape.length≤5000) (hl2:x.cells.length≤5000) :
  Calls Try.prog 92 #[.agg #[.slice a1 x.shape.length c1,.slice a2 x.cells.length c2]] w fun e w'=>(∃ d1 e1 d2 e2,e=.returned (.agg #[.slice d1 x.shape.length e1,.slice d2 x.cells.length e2])∧LitS (n+1) w0.heap.size w.heap.size w'.heap.size w' x (.agg #[.slice d1 x.shape.length e1,.slice d2 x.cells.length e2]))∧Below w.heap.size w w':=by
 obtain ⟨R,hl,news,hnl,hL,hce⟩:=cells_raw h
 have hLS:=row_raw R
 obtain ⟨W2,e2⟩:∃ W2,(w.alloc (.cells #[.slice a1 x.shape.length c1,.slice a2 x.cells.length c2] 36)).alloc (.cells #[.slice none 0 0,.slice none 0 0] 36)=W2:=⟨_,rfl⟩
 have B2:Below w.heap.size w W2:=by rw [←e2]; exact two_allocs _ _ _
 have s2:W2.heap.size=w.heap.size+2:=by rw [←e2]; simp
 have q0:W2.cell? ⟨w.heap.size,0,none⟩=some (.slice a1 x.shape.length c1):=by rw [←e2]; exact cell_one (cell_new0 w _ 36 0 _ rfl) (by simp) _
 have q1:W2.cell? ⟨w.heap.size,1,none⟩=some (.slice a2 x.cells.length c2):=by rw [←e2]; exact cell_one (cell_new0 w _ 36 1 _ rfl) (by simp) _
 have p0:W2.cell? ⟨w.heap.size+1,0,none⟩=some (.slice none 0 0):=by
  rw [←e2]
  simp
 have p1:W2.cell? ⟨w.heap.size+1,1,none⟩=some (.slice none 0 0):=by
  rw [←e2]
  simp
 have pf:∀ i,W2.frozen? ⟨w.heap.size+1,i,none⟩=false:=by
  intro i
  rw [←e2]
  simp
 have ho2:Below w0.heap.size w0 W2:=ho.trans (B2.mono ho.size)
 have KS:Hid (∀ W,Below (w.heap.size+1) W2 W→Below (w.heap.size+1) W2 W∧W.cell? ⟨w.heap.size,0,none⟩=some (.slice a1 x.shape.length c1)∧W.cell? ⟨w.heap.size,1,none⟩=some (.slice a2 x.cells.length c2)):=fun W hW=>⟨hW,(hW.cell (p:=⟨w.heap.size,0,none⟩) (by show w.heap.size < _; omega)).trans q0,(hW.cell (p:=⟨w.heap.size,1,none⟩) (by show w.heap.size < _; omega)).trans q1⟩
 have KW:Hid (∀ X,Below W2.heap.size W2 X→Below (w.heap.size+1) W2 X):=fun X hX=>hX.mono (by omega)
 have KT:Hid (∀ X u0 u1,Below W2.heap.size W2 X→Below (w.heap.size+1) W2 ((X.setCell ⟨w.heap.size+1,0,none⟩ u0).setCell ⟨w.heap.size+1,1,none⟩ u1)):=fun X u0 u1 hX=>((show Below (w.heap.size+1) W2 X from hX.mono (by omega)).setCell (p:=⟨w.heap.size+1,0,none⟩) (Nat.le_refl _) _).setCell (p:=⟨w.heap.size+1,1,none⟩) (Nat.le_refl _) _
 have KP:Hid (∀ W,Below W2.heap.size W2 W→W.cell? ⟨w.heap.size+1,0,none⟩=some (.slice none 0 0)∧W.cell? ⟨w.heap.size+1,1,none⟩=some (.slice none 0 0)∧W.frozen? ⟨w.heap.size+1,0,none⟩=false∧W.frozen? ⟨w.heap.size+1,1,none⟩=false):=fun W hW=>⟨(hW.cell (p:=⟨w.heap.size+1,0,none⟩) (by show w.heap.size+1 < _; omega)).trans p0,(hW.cell (p:=⟨w.heap.size+1,1,none⟩) (by show w.heap.size+1 < _; omega)).trans p1,(hW.frozen (p:=⟨w.heap.size+1,0,none⟩) (by show w.heap.size+1 < _; omega)).trans (pf 0),(hW.frozen (p:=⟨w.heap.size+1,1,none⟩) (by show w.heap.size+1 < _; omega)).trans (pf 1)⟩
 have H1:Hid (∀ W,Below W2.heap.size W2 W→Calls Try.prog 94 #[.slice a1 x.shape.length c1] W fun e w'=>∃ a' c',e=.returned (.slice a' x.shape.length c')∧OwnR W w' a' (x.shape.map (Value.int .i64))∧Below W2.heap.size W2 w'∧Below W.heap.size W w'):=fun W hW =>
  (clone94 (by simp) (by omega) ((hLS.next (ho2.trans (hW.mono ho2.size))))).mono fun e w' h=>by
   obtain ⟨⟨a',c',he,hr⟩,hb⟩:=h
   exact ⟨a',c',he,hr,hW.trans (hb.mono hW.size),hb⟩
 have H2:Hid (∀ W,Below W2.heap.size W2 W→Calls Try.prog 95 #[.slice a2 x.cells.length c2] W fun e w'=>∃ a' c',e=.returned (.slice a' x.cells.length c')∧OwnR W w' a' news∧Below W2.heap.size W2 w'∧Below W.heap.size W w'):=fun W hW =>
  (clone95 hnl (by omega) ((hL.next (ho2.trans (hW.mono ho2.size))))).mono fun e w' h=>by
   obtain ⟨⟨a',c',he,hr⟩,hb⟩:=h
   exact ⟨a',c',he,hr,hW.trans (hb.mono hW.size),hb⟩
 have HF:Hid (∀ (X w3 w4:World) (d1 d2:Option Addr) (k1 k2:Nat),Below W2.heap.size W2 X→OwnR X w3 d1 (x.shape.map (Value.int .i64))→Below W2.heap.size W2 w3→OwnR w3 w4 d2 news→Below W2.heap.size W2 w4→Below w3.heap.size w3 w4→∀ u0 u1:Value,LitS (n+1) w0.heap.size w.heap.size w4.heap.size ((w4.setCell ⟨w.heap.size+1,0,none⟩ u0).setCell ⟨w.heap.size+1,1,none⟩ u1) x (.agg #[.slice d1 x.shape.length k1,.slice d2 x.cells.length k2])∧Below w.heap.size w ((w4.setCell ⟨w.heap.size+1,0,none⟩ u0).setCell ⟨w.heap.size+1,1,none⟩ u1)):=fun X w3 w4 d1 d2 k1 k2 hX h1 h3 h2 h4 h34 u0 u1=>by
  have L:=lit_of (k1:=k1) (k2:=k2) (w:=W2) (ho2.trans (h4.mono ho2.size)) hl1 hl2 (h1.low hX.size) h34 (h2.low h3.size) hnl hce
  have hfin:Below (w.heap.size+1) w4 ((w4.setCell ⟨w.heap.size+1,0,none⟩ u0).setCell ⟨w.heap.size+1,1,none⟩ u1):=((Below.refl _ _).setCell (p:=⟨w.heap.size+1,0,none⟩) (Nat.le_refl _) _).setCell (p:=⟨w.heap.size+1,1,none⟩) (Nat.le_refl _) _
  refine ⟨fun W hW=>L W ⟨(hfin.mono (Nat.le_trans ho.size (by omega))).trans hW.1,fun k h5 h6=>(hW.2 k (by omega) h6).trans ?_⟩,(B2.trans (h4.mono B2.size)).trans (hfin.mono (by omega))⟩
  rw [Below.heap_setCell _ _ _ _ (by simp; omega),Below.heap_setCell _ _ _ _ (by simp; omega)]
 have HD0:Hid (Below W2.heap.size W2 W2.drew):=(Below.refl _ _).drew
 have HE2:=hide e2
 obtain ⟨-,y0,y1⟩:=KS.out W2 (Below.refl _ _)
 clear R hl hL hce hLS B2 s2 q0 q1 p0 p1 pf ho2 h ho e2 hnl hl1 hl2
 generalize x.shape.length=L1 at *
 generalize x.cells.length=L2 at *
 go_enter Try.func92,Try.ntmps92
 go_upto_region 1 with fail
 rw [HE2.out]
 go_region_held3 (fun W=>Below (w.heap.size+1) W2 W∧W.cell? ⟨w.heap.size,0,none⟩=some (.slice a1 L1 c1)∧W.cell? ⟨w.heap.size,1,none⟩=some (.slice a2 L2 c2)) (first | with_reducible exact KS.out _ (KW.out _ HD0.out) | with_reducible exact KS.out _ (KW.out _ (by with_reducible assumption)) | with_reducible exact KS.out _ (KT.out _ _ _ (by with_reducible assumption))) (first | (go_at_call 94; refine (H1.out _ HD0.out).mono ?_; rintro e w5 ⟨d1,k1,rfl,hr5,hg5,hb5⟩) | (go_at_call 95; refine (H2.out _ (by with_reducible assumption)).mono ?_; rintro e w6 ⟨d2,k2,rfl,hr6,hg6,hb6⟩; obtain ⟨p06,p16,f06,f16⟩:=KP.out _ hg6))
 all_goals
  obtain ⟨hF1,hF2⟩:=HF.out _ _ _ _ _ k1 k2 HD0.out hr5 hg5 hr6 hg6 hb6 (.slice d1 L1 k1) (.slice d2 L2 k2)
  have HF1:=hide hF1
  have HF2:=hide hF2
  have r0:((w6.setCell ⟨w.heap.size+1,0,none⟩ (.slice d1 L1 k1)).setCell ⟨w.heap.size+1,1,none⟩ (.slice d2 L2 k2)).cell? ⟨w.heap.size+1,0,none⟩=some (.slice d1 L1 k1):=by
   rw [World.cell?_setCell_other _ _ _ _ (by simp)]
   exact World.cell?_setCell_same' _ _ _ (by rw [p06]; rfl)
  have r1:((w6.setCell ⟨w.heap.size+1,0,none⟩ (.slice d1 L1 k1)).setCell ⟨w.heap.size+1,1,none⟩ (.slice d2 L2 k2)).cell? ⟨w.heap.size+1,1,none⟩=some (.slice d2 L2 k2):=World.cell?_setCell_same' _ _ _ (by rw [World.cell?_setCell_other _ _ _ _ (by simp),p16]; rfl)
  clear hF1 hF2 HF KP
  go_wp2
  exact bodyPost_ret (v:=.agg #[.slice d1 L1 k1,.slice d2 L2 k2]) (by simp [results,Try.results92,go_sem,r0,r1]) rfl ⟨⟨d1,k1,d2,k2,rfl,by simpa using HF1.out⟩,HF2.out⟩
end Go.Proofs.Ytnaejfoighmfeaa
namespace Go.Proofs.Ytnaejfoighmfeaa
open Go.ChangeShapes Go.WideShapes Go.ChangeAt Go.RowKit
set_option maxRecDepth 100000
set_option linter.unusedVariables false
set_option linter.unusedSimpArgs false
structure Nq (w:World) (p q:Nat) (nm:Nm):Prop where
 lt:q < w.heap.size
 hp:p < q
 c0:w.cell? ⟨q,0,none⟩=some (.bool nm.1)
 c1:w.cell? ⟨q,1,none⟩=some (.bool nm.2)
 f0:w.frozen? ⟨q,0,none⟩=false
 f1:w.frozen? ⟨q,1,none⟩=false
theorem Nq.keep {w w':World} {p q:Nat} {nm:Nm} (h:Nq w p q nm) (hb:Below (q+1) w w'):Nq w' p q nm :=
 ⟨Nat.lt_of_lt_of_le h.lt hb.size,h.hp,(hb.cell (p:=⟨q,0,none⟩) (Nat.lt_succ_self q)).trans h.c0,(hb.cell (p:=⟨q,1,none⟩) (Nat.lt_succ_self q)).trans h.c1,(hb.frozen (p:=⟨q,0,none⟩) (Nat.lt_succ_self q)).trans h.f0,(hb.frozen (p:=⟨q,1,none⟩) (Nat.lt_succ_self q)).trans h.f1⟩
theorem Nq.next {w w':World} {p q:Nat} {nm:Nm} (h:Nq w p q nm) (hb:Below w.heap.size w w'):Nq w' p q nm:=h.keep (hb.mono h.lt)
def namV (inn:Bool) (q:Nat):Value:=match inn with
 | true=>.pointer (some ⟨q,0,none⟩)
 | false=>.pointer none
def TT (inn:Bool) (p q:Nat) (k:Nat):Prop:=k=p ∨ inn=true∧k=q
def GvW (n:Nat) (w0 w:World) (p q:Nat) (g:Gr) (R:Raw) (ws:List Wo) (A:Ra) (i:Nat) (e:Int) (inn:Bool) (nm:Nm) (res:Rs (Nd × Nm)) (en:Ending) (w':World):Prop :=
 But (TT inn p q) w w'∧match res with
 | .ok r=>∃ v m,en=.returned v∧Rd (n+1) w0 w' p g R ws A i e∧Tr (n+1) w0.heap.size m w.heap.size w'.heap.size w' r.1 v∧(inn=true→Nq w' p q (orN nm r.2))
 | .bad er pl=>en=faultP er pl
 | .stuck=>True
set_option maxHeartbeats 4000000 in
theorem word_end {n:Nat} {w0 w:World} {p q:Nat} {g:Gr} {R:Raw} {ws:List Wo} {A:Ra} {i:Nat} {e:Int} (h:Rd (n+1) w0 w p g R ws A i e) (inn:Bool) (nm:Nm) (hn:inn=true→Nq w p q nm) (hi:¬ i < ws.length) :
  Calls Try.prog 85 #[.pointer (some ⟨p,0,none⟩),namV inn q] w fun en w'=>GvW n w0 w p q g R ws A i e inn nm (wordS g e inn (ws.drop i)) en w':=by
 have hw:wordS g e inn (ws.drop i)=.bad 2 e:=by rw [drop_end hi]; rfl
 have hile:=h.hi
 obtain ⟨W1,e1⟩:∃ W1,w.alloc (.cells #[.int .i64 0,.int .i64 0,.string ⟨#[]⟩,.slice none 0 0,.slice none 0 0,.slice none 0 0,.int .i64 0] 39)=W1:=⟨_,rfl⟩
 have b1:Below w.heap.size w W1:=by rw [←e1]; exact one_alloc _ _
 have h1:=h.next b1
 have HC:=hide (fun m=>refuse22 (h1.next (drewN_below (Below.refl W1.heap.size W1) m)) 2)
 rw [place_end hi] at HC
 have HB:=hide (fun m=>b1.trans ((drewN_below (Below.refl W1.heap.size W1) m).mono b1.size))
 have c14:=h1.sp.sn.c14
 have c19:=h1.c19
 have hL:=h1.sp.sn.words
 obtain rfl:i=ws.length:=by omega
 have HE:=hide e1
 clear h h1 e1 b1 hn
 generalize hNV:namV inn q=NV
 unfold GvW
 rw [hw]
 generalize ws.length=L at *
 generalize R.aw=aw at *
 generalize R.cw=cw at *
 go_enter Try.func85,Try.ntmps85
 go_upto_region 1 with fail
 rw [HE.out]
 go_quiet (fail)
 go_wp2_with fail
 refine (HC.out _).mono ?_
 rintro en w1 ⟨rfl,hb⟩
 go_wp2
 exact ⟨rfl,But.of ((HB.out _).trans (hb.mono (HB.out _).size)),rfl⟩
theorem butS {T:Nat→Prop} {w X:World} {b o:Nat} {u:Value} (h:But T w X) (ht:T b):But T w (X.setCell ⟨b,o,none⟩ u) :=
 h.trans (⟨rfl,rfl,rfl,by simp,fun k _ hn=>Below.heap_setCell _ _ _ _ hn⟩:But (·=b) X (X.setCell ⟨b,o,none⟩ u)) fun j _ hj=>hj ▸ ht
theorem cs_same {w:World} {b o:Nat} {u v:Value} (h:w.cell? ⟨b,o,none⟩=some v):(w.setCell ⟨b,o,none⟩ u).cell? ⟨b,o,none⟩=some u:=World.cell?_setCell_same' _ _ _ (by rw [h]; rfl)
theorem cs_off {w:World} {b b' o o':Nat} {u v:Value} (hn:¬ (b'=b∧o'=o)) (h:w.cell? ⟨b',o',none⟩=some v):(w.setCell ⟨b,o,none⟩ u).cell? ⟨b',o',none⟩=some v:=by
 rw [World.cell?_setCell_other _ _ _ _ (by simp only [ne_eq,Addr.mk.injEq,not_and]; intro h1 h2; exact fun _=>hn ⟨h1.symm,h2.symm⟩)]; exact h
theorem fs_any {w:World} {a c:Addr} {u:Value} (h:w.frozen? a=false):(w.setCell c u).frozen? a=false:=frozen_set _ _ _ _ h
def Two2 (w:World) (k:Nat):Prop:=k=w.heap.size+1+1 ∨ k=w.heap.size
theorem two_r (w:World):Two2 w w.heap.size:=Or.inr rfl
theorem two_n (w:World):Two2 w (w.heap.size+1+1):=Or.inl rfl
theorem two_below {w W4 w5 wf:World} (h4:Below w.heap.size w W4) (h5:Below W4.heap.size W4 w5) (hf:But (Two2 w) w5 wf):Below w.heap.size w wf :=
 (h4.trans (h5.mono h4.size)).trans (hf.below (Nat.le_trans h4.size h5.size) fun k hk=>by rcases hk with rfl | rfl <;> omega)
theorem LitS.two {n B hi:Nat} {w W4 w5 wf:World} {x:Ar} {v:Value} (h:LitS n B W4.heap.size w5.heap.size w5 x v) (hB:B≤w.heap.size) (s4:W4.heap.size=w.heap.size+3) (h5:W4.heap.size≤w5.heap.size) (hf:But (Two2 w) w5 wf) (hh:w5.heap.size≤hi):LitS n B w.heap.size hi wf x v:=fun W hW =>
 h W ⟨(hf.below (by omega) fun k hk=>by rcases hk with rfl | rfl <;> omega).trans hW.1,fun k h1 h2=>(hW.2 k (by omega) (by omega)).trans (hf.block h2 fun hk=>by rcases hk with rfl | rfl <;> omega)⟩
set_option maxHeartbeats 8000000 in
theorem word_num {n:Nat} {w0 w:World} {p q:Nat} {g:Gr} {R:Raw} {ws:List Wo} {A:Ra} {i:Nat} {e:Int} (h:Rd (n+1) w0 w p g R ws A i e) (inn:Bool) (nm:Nm) (hn:inn=true→Nq w p q nm) (hi:i < ws.length) (hk:(wAt ws i).kind=1) :
  Calls Try.prog 85 #[.pointer (some ⟨p,0,none⟩),namV inn q] w fun en w'=>GvW n w0 w p q g R ws A i e inn nm (wordS g e inn (ws.drop i)) en w':=by
 have hw:wordS g e inn (ws.drop i)=.ok (.mk 1 0 nost (wAt ws i).lit [] (wAt ws i).pos,false,false):=by rw [drop_at hi]; simp [wordS,hk]
 have hile:=h.hi
 obtain ⟨W1,e1⟩:∃ W1,w.alloc (.cells #[.int .i64 0,.int .i64 0,.string ⟨#[]⟩,.slice none 0 0,.slice none 0 0,.slice none 0 0,.int .i64 0] 39)=W1:=⟨_,rfl⟩
 have b1:Below w.heap.size w W1:=by rw [←e1]; exact one_alloc _ _
 have s1:W1.heap.size=w.heap.size+1:=by rw [←e1]; simp
 have h1:=h.next b1
 have c14:=h1.sp.sn.c14
 have c19:=h1.c19
 have hL:=h1.sp.sn.words
 have hpw:=h1.sp.sn.hp2
 obtain ⟨b,off,z1,m1,z2,m2,ha,hb0,g0,g1,g2,g3,g4,gb,g5⟩:=h.sp.sn.wo.2 i hi
 rw [ha] at c14
 have hne:((i:Int) == (ws.length:Int))=false:=by simp; omega
 have hne2:¬ (i:Int)=(ws.length:Int):=by omega
 have ho1:=h1.sp.sn.old
 have KS:Hid (∀ W,Below W1.heap.size W1 W→Below W1.heap.size W1 W∧W.cell? ⟨p,14,none⟩=some (.slice (some ⟨b,off,none⟩) ws.length R.cw)∧W.cell? ⟨p,19,none⟩=some (.int .i64 (i:Int))∧W.cell? ⟨b,off+i * 5,none⟩=some (.int .i64 (wAt ws i).kind)∧W.cell? ⟨b,off+i * 5+1,none⟩=some (.string (wAt ws i).text)∧W.cell? ⟨b,off+i * 5+2,none⟩=some (.slice z1 (wAt ws i).lit.shape.length m1)∧W.cell? ⟨b,off+i * 5+3,none⟩=some (.slice z2 (wAt ws i).lit.cells.length m2)∧W.cell? ⟨b,off+i * 5+4,none⟩=some (.int .i64 (wAt ws i).pos)):=fun W hW =>
  have hw:=ho1.trans (hW.mono ho1.size)
  ⟨hW,(hW.cell (p:=⟨p,14,none⟩) hpw).trans c14,(hW.cell (p:=⟨p,19,none⟩) hpw).trans c19,(hw.cell (p:=⟨b,_,none⟩) hb0).trans g0,(hw.cell (p:=⟨b,_,none⟩) hb0).trans g1,(hw.cell (p:=⟨b,_,none⟩) hb0).trans g2,(hw.cell (p:=⟨b,_,none⟩) hb0).trans g3,(hw.cell (p:=⟨b,_,none⟩) hb0).trans g4⟩
 have HRES:Hid (∀ W,Below W1.heap.size W1 W→(∀ o,o < 7→∃ v,W.cell? ⟨w.heap.size,o,none⟩=some v)∧∀ o,W.frozen? ⟨w.heap.size,o,none⟩=false):=fun W hW=>by
  have hl:w.heap.size < W1.heap.size:=by omega
  refine ⟨fun o ho=>?_,fun o=>(hW.frozen (p:=⟨w.heap.size,o,none⟩) hl).trans (by rw [←e1]; exact frozen_new _ _ _ _)⟩
  have hcc:∃ v,W1.cell? ⟨w.heap.size,o,none⟩=some v:=by
   rw [←e1]
   have:o=0 ∨ o=1 ∨ o=2 ∨ o=3 ∨ o=4 ∨ o=5 ∨ o=6:=by omega
   rcases this with rfl | rfl | rfl | rfl | rfl | rfl | rfl <;> exact ⟨_,cell_new0 w _ 39 _ _ rfl⟩
  obtain ⟨v,hv⟩:=hcc
  exact ⟨v,(hW.cell (p:=⟨w.heap.size,o,none⟩) hl).trans hv⟩
 have HE:=hide e1
 have HG5:=hide g5
 have HGB:=hide gb
 have HH:=hide h
 have HB1:=hide b1
 have HNN:=hide hn
 generalize hNV:namV inn q=NV
 clear hNV
 unfold GvW
 rw [hw]
 obtain ⟨LT,hLT⟩:∃ LT,(wAt ws i).lit=LT:=⟨_,rfl⟩
 rw [hLT] at KS HG5 HGB
 try rw [hLT]
 generalize (wAt ws i).text=TX at *
 generalize (wAt ws i).pos=PS at *
 generalize (wAt ws i).kind=KI at *
 subst hk
 clear h h1 e1 b1 hn g0 g1 g2 g3 g4 g5 hLT c14 c19 ho1 gb
 generalize ws.length=L at *
 generalize R.cw=cw at *
 go_enter Try.func85,Try.ntmps85
 go_upto_region 1 with fail
 rw [HE.out]
 obtain ⟨-,k14,k19,-⟩:=KS.out W1 (Below.refl _ _)
 go_quiet (fail)
 go_upto_region 3 with fail
 obtain ⟨wq,hwq⟩:∃ wq,W1.drewN nq=wq:=⟨_,rfl⟩
 have bq:Below W1.heap.size W1 wq:=by rw [←hwq]; exact drewN_below (Below.refl W1.heap.size W1) _
 have sq:wq.heap.size=w.heap.size+1:=by rw [←hwq]; exact s1
 have HBQ:=hide bq
 have HDQ:Hid (Below W1.heap.size W1 wq.drew):=bq.drew
 rw [hwq]
 clear hwq k14 k19
 obtain ⟨-,k14,k19,k0,k1,k2,k3,k4⟩:=KS.out wq bq
 go_region_held3 (fun W=>Below W1.heap.size W1 W∧W.cell? ⟨p,14,none⟩=some (.slice (some ⟨b,off,none⟩) L cw)∧W.cell? ⟨p,19,none⟩=some (.int .i64 (i:Int))∧W.cell? ⟨b,off+i * 5,none⟩=some (.int .i64 1)∧W.cell? ⟨b,off+i * 5+1,none⟩=some (.string TX)∧W.cell? ⟨b,off+i * 5+2,none⟩=some (.slice z1 LT.shape.length m1)∧W.cell? ⟨b,off+i * 5+3,none⟩=some (.slice z2 LT.cells.length m2)∧W.cell? ⟨b,off+i * 5+4,none⟩=some (.int .i64 PS)) (first | with_reducible exact KS.out _ HDQ.out | with_reducible exact KS.out _ (by with_reducible assumption) | with_reducible exact KS.out _ (HDQ.out.alloc HDQ.out.size _) | with_reducible exact KS.out _ (HBQ.out.alloc HBQ.out.size _) | with_reducible exact KS.out _ ((HBQ.out.alloc HBQ.out.size _).drew)) (fail)
 clear k14 k19 k0 k1 k2 k3 k4
 go_upto_region 8 with fail
 obtain ⟨W4,hW4⟩:∃ W4,((wq.alloc (.cells #[.int .i64 1,.string TX,.slice z1 LT.shape.length m1,.slice z2 LT.cells.length m2,.int .i64 PS] 43)).alloc (.cells #[.int .i64 0,.int .i64 0,.string ⟨#[]⟩,.slice none 0 0,.slice none 0 0,.slice none 0 0,.int .i64 PS] 39)).drew=W4:=⟨_,rfl⟩
 rw [hW4]
 have s4:W4.heap.size=w.heap.size+3:=by rw [←hW4]; show (((wq.alloc _).alloc _)).heap.size=_; simp [sq]
 have b4q:Below W1.heap.size W1 W4:=by rw [←hW4]; exact ((bq.alloc bq.size _).alloc (by simp; have:=bq.size; omega) _).drew
 have b4:Below w.heap.size w W4:=HB1.out.trans (b4q.mono HB1.out.size)
 have wc:∀ o v,(#[.int .i64 1,.string TX,.slice z1 LT.shape.length m1,.slice z2 LT.cells.length m2,.int .i64 PS]:Array Value)[o]?=some v→W4.cell? ⟨w.heap.size+1,o,none⟩=some v:=fun o v ho=>by
  rw [←hW4,← sq]
  exact cell_one (cell_new0 wq _ 43 o v ho) (by simp) _
 have nc:∀ o v,(#[.int .i64 0,.int .i64 0,.string ⟨#[]⟩,.slice none 0 0,.slice none 0 0,.slice none 0 0,.int .i64 PS]:Array Value)[o]?=some v→W4.cell? ⟨w.heap.size+1+1,o,none⟩=some v:=fun o v ho=>by
  rw [←hW4]
  have:=cell_new0 (wq.alloc (.cells #[.int .i64 1,.string TX,.slice z1 LT.shape.length m1,.slice z2 LT.cells.length m2,.int .i64 PS] 43)) #[.int .i64 0,.int .i64 0,.string ⟨#[]⟩,.slice none 0 0,.slice none 0 0,.slice none 0 0,.int .i64 PS] 39 o v ho
  have e9:(wq.alloc (.cells #[.int .i64 1,.string TX,.slice z1 LT.shape.length m1,.slice z2 LT.cells.length m2,.int .i64 PS] 43)).heap.size=w.heap.size+1+1:=by simp [sq]
  rw [e9] at this
  exact this
 have nf:∀ o,W4.frozen? ⟨w.heap.size+1+1,o,none⟩=false:=fun o=>by
  rw [←hW4]
  have:=frozen_new (wq.alloc (.cells #[.int .i64 1,.string TX,.slice z1 LT.shape.length m1,.slice z2 LT.cells.length m2,.int .i64 PS] 43)) #[.int .i64 0,.int .i64 0,.string ⟨#[]⟩,.slice none 0 0,.slice none 0 0,.slice none 0 0,.int .i64 PS] 39 o
  have e9:(wq.alloc (.cells #[.int .i64 1,.string TX,.slice z1 LT.shape.length m1,.slice z2 LT.cells.length m2,.int .i64 PS] 43)).heap.size=w.heap.size+1+1:=by simp [sq]
  rw [e9] at this
  exact this
 have HN:Hid (∀ W,Below W4.heap.size W4 W→(∀ o v,(#[.int .i64 0,.int .i64 0,.string ⟨#[]⟩,.slice none 0 0,.slice none 0 0,.slice none 0 0,.int .i64 PS]:Array Value)[o]?=some v→W.cell? ⟨w.heap.size+1+1,o,none⟩=some v)∧(∀ o,W.frozen? ⟨w.heap.size+1+1,o,none⟩=false)∧(∀ o,o < 7→∃ v,W.cell? ⟨w.heap.size,o,none⟩=some v)∧∀ o,W.frozen? ⟨w.heap.size,o,none⟩=false):=fun W hW =>
  ⟨fun o v ho=>(hW.cell (p:=⟨w.heap.size+1+1,o,none⟩) (by show w.heap.size+1+1 < _; omega)).trans (nc o v ho),fun o=>(hW.frozen (p:=⟨w.heap.size+1+1,o,none⟩) (by show w.heap.size+1+1 < _; omega)).trans (nf o),HRES.out W (b4q.trans (hW.mono b4q.size))⟩
 have HB4:=hide b4
 have HS4:=hide s4
 clear HBQ HDQ hW4 nc nf bq sq b4 b4q s4 HRES KS
 have HO4:=hide (HH.out.sp.sn.old.trans (HB4.out.mono HH.out.sp.sn.old.size))
 have HC:=hide (copied92 HG5.out HO4.out HGB.out.2.1 HGB.out.2.2)
 have w2:=wc 2 _ rfl
 have w3:=wc 3 _ rfl
 clear wc
 go_wp2_with fail
 refine HC.out.mono ?_
 rintro en w5 ⟨⟨d1,k1,d2,k2,rfl,hlit⟩,hb5⟩
 have HL5:=hide hlit
 have HB5:=hide hb5
 obtain ⟨xn,xf,xr,xg⟩:=HN.out _ hb5
 have x0:=xn 0 _ rfl
 have x1:=xn 1 _ rfl
 have x2:=xn 2 _ rfl
 have x3:=xn 3 _ rfl
 have x4:=xn 4 _ rfl
 have x5:=xn 5 _ rfl
 have x6:=xn 6 _ rfl
 have y0:=xf 0
 have y2:=xf 2
 have y3:=xf 3
 have y4:=xf 4
 obtain ⟨r0,R0⟩:=xr 0 (by omega)
 obtain ⟨r1,R1⟩:=xr 1 (by omega)
 obtain ⟨r2,R2⟩:=xr 2 (by omega)
 obtain ⟨r3,R3⟩:=xr 3 (by omega)
 obtain ⟨r4,R4⟩:=xr 4 (by omega)
 obtain ⟨r5,R5⟩:=xr 5 (by omega)
 obtain ⟨r6,R6⟩:=xr 6 (by omega)
 have G0:=xg 0
 have G1:=xg 1
 have G2:=xg 2
 have G3:=xg 3
 have G4:=xg 4
 have G5:=xg 5
 have G6:=xg 6
 clear xn xf xr xg HN
 clear hlit hb5 HC w2 w3
 have HFIN:Hid (∀ wf,But (Two2 w) w5 wf→But (TT inn p q) w wf∧∃ v m,(Ending.returned (.agg #[.int .i64 1,.int .i64 0,.string ⟨#[]⟩,.slice d1 LT.shape.length k1,.slice d2 LT.cells.length k2,.slice none 0 0,.int .i64 PS]):Ending)=.returned v∧Rd (n+1) w0 wf p g R ws A i e∧Tr (n+1) w0.heap.size m w.heap.size wf.heap.size wf (.mk 1 0 nost LT [] PS) v∧(inn=true→Nq wf p q (orN nm (false,false)))):=fun wf hf=>by
  have hb:=two_below HB4.out HB5.out hf
  refine ⟨But.of hb,_,1,rfl,HH.out.next hb,⟨d1,k1,d2,k2,none,0,rfl,(HL5.out.two HH.out.sp.sn.old.size HS4.out HB5.out.size hf hf.size).d,by simp [Nd.kids],Nat.zero_le _,Or.inl rfl⟩,fun hin=>?_⟩
  have:=(HNN.out hin).next hb
  cases nm with | mk l r=>simpa [orN] using this
 clear HL5 HB5 HB4 HS4 HH HNN HO4 HG5 HGB
 generalize LT.shape.length=L1 at *
 generalize LT.cells.length=L2 at *
 go_upto_region 15 with fail
 obtain ⟨w7,hw7⟩:∃ w7,(((w5.setCell ⟨w.heap.size+1+1,0,none⟩ (.int .i64 1)).setCell ⟨w.heap.size+1+1,3,none⟩ (.slice d1 L1 k1)).setCell ⟨w.heap.size+1+1,4,none⟩ (.slice d2 L2 k2))=w7:=⟨_,rfl⟩
 rw [hw7]
 have v0:w7.cell? ⟨w.heap.size+1+1,0,none⟩=some (.int .i64 1):=by rw [←hw7]; exact cs_off (by omega) (cs_off (by omega) (cs_same (x0)))
 have v1:w7.cell? ⟨w.heap.size+1+1,1,none⟩=some (.int .i64 0):=by rw [←hw7]; exact cs_off (by omega) (cs_off (by omega) (cs_off (by omega) (x1)))
 have v2:w7.cell? ⟨w.heap.size+1+1,2,none⟩=some (.string ⟨#[]⟩):=by rw [←hw7]; exact cs_off (by omega) (cs_off (by omega) (cs_off (by omega) (x2)))
 have v3:w7.cell? ⟨w.heap.size+1+1,3,none⟩=some (.slice d1 L1 k1):=by rw [←hw7]; exact cs_off (by omega) (cs_same (cs_off (by omega) (x3)))
 have v4:w7.cell? ⟨w.heap.size+1+1,4,none⟩=some (.slice d2 L2 k2):=by rw [←hw7]; exact cs_same (cs_off (by omega) (cs_off (by omega) (x4)))
 have v5:w7.cell? ⟨w.heap.size+1+1,5,none⟩=some (.slice none 0 0):=by rw [←hw7]; exact cs_off (by omega) (cs_off (by omega) (cs_off (by omega) (x5)))
 have v6:w7.cell? ⟨w.heap.size+1+1,6,none⟩=some (.int .i64 PS):=by rw [←hw7]; exact cs_off (by omega) (cs_off (by omega) (cs_off (by omega) (x6)))
 have Q0:w7.cell? ⟨w.heap.size,0,none⟩=some r0:=by rw [←hw7]; exact cs_off (by omega) (cs_off (by omega) (cs_off (by omega) R0))
 have F0:w7.frozen? ⟨w.heap.size,0,none⟩=false:=by rw [←hw7]; exact fs_any (fs_any (fs_any G0))
 have Q1:w7.cell? ⟨w.heap.size,1,none⟩=some r1:=by rw [←hw7]; exact cs_off (by omega) (cs_off (by omega) (cs_off (by omega) R1))
 have F1:w7.frozen? ⟨w.heap.size,1,none⟩=false:=by rw [←hw7]; exact fs_any (fs_any (fs_any G1))
 have Q2:w7.cell? ⟨w.heap.size,2,none⟩=some r2:=by rw [←hw7]; exact cs_off (by omega) (cs_off (by omega) (cs_off (by omega) R2))
 have F2:w7.frozen? ⟨w.heap.size,2,none⟩=false:=by rw [←hw7]; exact fs_any (fs_any (fs_any G2))
 have Q3:w7.cell? ⟨w.heap.size,3,none⟩=some r3:=by rw [←hw7]; exact cs_off (by omega) (cs_off (by omega) (cs_off (by omega) R3))
 have F3:w7.frozen? ⟨w.heap.size,3,none⟩=false:=by rw [←hw7]; exact fs_any (fs_any (fs_any G3))
 have Q4:w7.cell? ⟨w.heap.size,4,none⟩=some r4:=by rw [←hw7]; exact cs_off (by omega) (cs_off (by omega) (cs_off (by omega) R4))
 have F4:w7.frozen? ⟨w.heap.size,4,none⟩=false:=by rw [←hw7]; exact fs_any (fs_any (fs_any G4))
 have Q5:w7.cell? ⟨w.heap.size,5,none⟩=some r5:=by rw [←hw7]; exact cs_off (by omega) (cs_off (by omega) (cs_off (by omega) R5))
 have F5:w7.frozen? ⟨w.heap.size,5,none⟩=false:=by rw [←hw7]; exact fs_any (fs_any (fs_any G5))
 have Q6:w7.cell? ⟨w.heap.size,6,none⟩=some r6:=by rw [←hw7]; exact cs_off (by omega) (cs_off (by omega) (cs_off (by omega) R6))
 have F6:w7.frozen? ⟨w.heap.size,6,none⟩=false:=by rw [←hw7]; exact fs_any (fs_any (fs_any G6))
 have HB7:=hide (show But (Two2 w) w5 w7 by rw [←hw7]; exact butS (butS (butS (But.refl _ _) (Or.inl rfl)) (Or.inl rfl)) (Or.inl rfl))
 clear hw7 x0 x1 x2 x3 x4 x5 x6 y0 y2 y3 y4 R0 R1 R2 R3 R4 R5 R6 G0 G1 G2 G3 G4 G5 G6
 go_wp2
 refine bodyPost_ret (v:=.agg #[.int .i64 1,.int .i64 0,.string ⟨#[]⟩,.slice d1 L1 k1,.slice d2 L2 k2,.slice none 0 0,.int .i64 PS]) (by simp [results,Try.results85,go_sem,Q0,Q1,Q2,Q3,Q4,Q5,Q6]) rfl (HFIN.out _ ?_)
 repeat' first | with_reducible exact HB7.out | with_reducible exact two_r w | with_reducible refine butS ?_ ?_
set_option maxHeartbeats 8000000 in
theorem word_text {n:Nat} {w0 w:World} {p q:Nat} {g:Gr} {R:Raw} {ws:List Wo} {A:Ra} {i:Nat} {e:Int} (h:Rd (n+1) w0 w p g R ws A i e) (inn:Bool) (nm:Nm) (hn:inn=true→Nq w p q nm) (hi:i < ws.length) (hk:(wAt ws i).kind=2) :
  Calls Try.prog 85 #[.pointer (some ⟨p,0,none⟩),namV inn q] w fun en w'=>GvW n w0 w p q g R ws A i e inn nm (wordS g e inn (ws.drop i)) en w':=by
 have hw:wordS g e inn (ws.drop i)=.ok (.mk 1 0 nost (wAt ws i).lit [] (wAt ws i).pos,false,false):=by rw [drop_at hi]; simp [wordS,hk]
 have hile:=h.hi
 obtain ⟨W1,e1⟩:∃ W1,w.alloc (.cells #[.int .i64 0,.int .i64 0,.string ⟨#[]⟩,.slice none 0 0,.slice none 0 0,.slice none 0 0,.int .i64 0] 39)=W1:=⟨_,rfl⟩
 have b1:Below w.heap.size w W1:=by rw [←e1]; exact one_alloc _ _
 have s1:W1.heap.size=w.heap.size+1:=by rw [←e1]; simp
 have h1:=h.next b1
 have c14:=h1.sp.sn.c14
 have c19:=h1.c19
 have hL:=h1.sp.sn.words
 have hpw:=h1.sp.sn.hp2
 obtain ⟨b,off,z1,m1,z2,m2,ha,hb0,g0,g1,g2,g3,g4,gb,g5⟩:=h.sp.sn.wo.2 i hi
 rw [ha] at c14
 have hne:((i:Int) == (ws.length:Int))=false:=by simp; omega
 have hne2:¬ (i:Int)=(ws.length:Int):=by omega
 have ho1:=h1.sp.sn.old
 have KS:Hid (∀ W,Below W1.heap.size W1 W→Below W1.heap.size W1 W∧W.cell? ⟨p,14,none⟩=some (.slice (some ⟨b,off,none⟩) ws.length R.cw)∧W.cell? ⟨p,19,none⟩=some (.int .i64 (i:Int))∧W.cell? ⟨b,off+i * 5,none⟩=some (.int .i64 (wAt ws i).kind)∧W.cell? ⟨b,off+i * 5+1,none⟩=some (.string (wAt ws i).text)∧W.cell? ⟨b,off+i * 5+2,none⟩=some (.slice z1 (wAt ws i).lit.shape.length m1)∧W.cell? ⟨b,off+i * 5+3,none⟩=some (.slice z2 (wAt ws i).lit.cells.length m2)∧W.cell? ⟨b,off+i * 5+4,none⟩=some (.int .i64 (wAt ws i).pos)):=fun W hW =>
  have hw:=ho1.trans (hW.mono ho1.size)
  ⟨hW,(hW.cell (p:=⟨p,14,none⟩) hpw).trans c14,(hW.cell (p:=⟨p,19,none⟩) hpw).trans c19,(hw.cell (p:=⟨b,_,none⟩) hb0).trans g0,(hw.cell (p:=⟨b,_,none⟩) hb0).trans g1,(hw.cell (p:=⟨b,_,none⟩) hb0).trans g2,(hw.cell (p:=⟨b,_,none⟩) hb0).trans g3,(hw.cell (p:=⟨b,_,none⟩) hb0).trans g4⟩
 have HRES:Hid (∀ W,Below W1.heap.size W1 W→(∀ o,o < 7→∃ v,W.cell? ⟨w.heap.size,o,none⟩=some v)∧∀ o,W.frozen? ⟨w.heap.size,o,none⟩=false):=fun W hW=>by
  have hl:w.heap.size < W1.heap.size:=by omega
  refine ⟨fun o ho=>?_,fun o=>(hW.frozen (p:=⟨w.heap.size,o,none⟩) hl).trans (by rw [←e1]; exact frozen_new _ _ _ _)⟩
  have hcc:∃ v,W1.cell? ⟨w.heap.size,o,none⟩=some v:=by
   rw [←e1]
   have:o=0 ∨ o=1 ∨ o=2 ∨ o=3 ∨ o=4 ∨ o=5 ∨ o=6:=by omega
   rcases this with rfl | rfl | rfl | rfl | rfl | rfl | rfl <;> exact ⟨_,cell_new0 w _ 39 _ _ rfl⟩
  obtain ⟨v,hv⟩:=hcc
  exact ⟨v,(hW.cell (p:=⟨w.heap.size,o,none⟩) hl).trans hv⟩
 have HE:=hide e1
 have HG5:=hide g5
 have HGB:=hide gb
 have HH:=hide h
 have HB1:=hide b1
 have HNN:=hide hn
 generalize hNV:namV inn q=NV
 clear hNV
 unfold GvW
 rw [hw]
 obtain ⟨LT,hLT⟩:∃ LT,(wAt ws i).lit=LT:=⟨_,rfl⟩
 rw [hLT] at KS HG5 HGB
 try rw [hLT]
 generalize (wAt ws i).text=TX at *
 generalize (wAt ws i).pos=PS at *
 generalize (wAt ws i).kind=KI at *
 subst hk
 clear h h1 e1 b1 hn g0 g1 g2 g3 g4 g5 hLT c14 c19 ho1 gb
 generalize ws.length=L at *
 generalize R.cw=cw at *
 go_enter Try.func85,Try.ntmps85
 go_upto_region 1 with fail
 rw [HE.out]
 obtain ⟨-,k14,k19,-⟩:=KS.out W1 (Below.refl _ _)
 go_quiet (fail)
 go_upto_region 3 with fail
 obtain ⟨wq,hwq⟩:∃ wq,W1.drewN nq=wq:=⟨_,rfl⟩
 have bq:Below W1.heap.size W1 wq:=by rw [←hwq]; exact drewN_below (Below.refl W1.heap.size W1) _
 have sq:wq.heap.size=w.heap.size+1:=by rw [←hwq]; exact s1
 have HBQ:=hide bq
 have HDQ:Hid (Below W1.heap.size W1 wq.drew):=bq.drew
 rw [hwq]
 clear hwq k14 k19
 obtain ⟨-,k14,k19,k0,k1,k2,k3,k4⟩:=KS.out wq bq
 go_region_held3 (fun W=>Below W1.heap.size W1 W∧W.cell? ⟨p,14,none⟩=some (.slice (some ⟨b,off,none⟩) L cw)∧W.cell? ⟨p,19,none⟩=some (.int .i64 (i:Int))∧W.cell? ⟨b,off+i * 5,none⟩=some (.int .i64 2)∧W.cell? ⟨b,off+i * 5+1,none⟩=some (.string TX)∧W.cell? ⟨b,off+i * 5+2,none⟩=some (.slice z1 LT.shape.length m1)∧W.cell? ⟨b,off+i * 5+3,none⟩=some (.slice z2 LT.cells.length m2)∧W.cell? ⟨b,off+i * 5+4,none⟩=some (.int .i64 PS)) (first | with_reducible exact KS.out _ HDQ.out | with_reducible exact KS.out _ (by with_reducible assumption) | with_reducible exact KS.out _ (HDQ.out.alloc HDQ.out.size _) | with_reducible exact KS.out _ (HBQ.out.alloc HBQ.out.size _) | with_reducible exact KS.out _ ((HBQ.out.alloc HBQ.out.size _).drew)) (fail)
 clear k14 k19 k0 k1 k2 k3 k4
 go_upto_region 8 with fail
 obtain ⟨W4,hW4⟩:∃ W4,((wq.alloc (.cells #[.int .i64 2,.string TX,.slice z1 LT.shape.length m1,.slice z2 LT.cells.length m2,.int .i64 PS] 43)).alloc (.cells #[.int .i64 0,.int .i64 0,.string ⟨#[]⟩,.slice none 0 0,.slice none 0 0,.slice none 0 0,.int .i64 PS] 39)).drew=W4:=⟨_,rfl⟩
 rw [hW4]
 have s4:W4.heap.size=w.heap.size+3:=by rw [←hW4]; show (((wq.alloc _).alloc _)).heap.size=_; simp [sq]
 have b4q:Below W1.heap.size W1 W4:=by rw [←hW4]; exact ((bq.alloc bq.size _).alloc (by simp; have:=bq.size; omega) _).drew
 have b4:Below w.heap.size w W4:=HB1.out.trans (b4q.mono HB1.out.size)
 have wc:∀ o v,(#[.int .i64 2,.string TX,.slice z1 LT.shape.length m1,.slice z2 LT.cells.length m2,.int .i64 PS]:Array Value)[o]?=some v→W4.cell? ⟨w.heap.size+1,o,none⟩=some v:=fun o v ho=>by
  rw [←hW4,← sq]
  exact cell_one (cell_new0 wq _ 43 o v ho) (by simp) _
 have nc:∀ o v,(#[.int .i64 0,.int .i64 0,.string ⟨#[]⟩,.slice none 0 0,.slice none 0 0,.slice none 0 0,.int .i64 PS]:Array Value)[o]?=some v→W4.cell? ⟨w.heap.size+1+1,o,none⟩=some v:=fun o v ho=>by
  rw [←hW4]
  have:=cell_new0 (wq.alloc (.cells #[.int .i64 2,.string TX,.slice z1 LT.shape.length m1,.slice z2 LT.cells.length m2,.int .i64 PS] 43)) #[.int .i64 0,.int .i64 0,.string ⟨#[]⟩,.slice none 0 0,.slice none 0 0,.slice none 0 0,.int .i64 PS] 39 o v ho
  have e9:(wq.alloc (.cells #[.int .i64 2,.string TX,.slice z1 LT.shape.length m1,.slice z2 LT.cells.length m2,.int .i64 PS] 43)).heap.size=w.heap.size+1+1:=by simp [sq]
  rw [e9] at this
  exact this
 have nf:∀ o,W4.frozen? ⟨w.heap.size+1+1,o,none⟩=false:=fun o=>by
  rw [←hW4]
  have:=frozen_new (wq.alloc (.cells #[.int .i64 2,.string TX,.slice z1 LT.shape.length m1,.slice z2 LT.cells.length m2,.int .i64 PS] 43)) #[.int .i64 0,.int .i64 0,.string ⟨#[]⟩,.slice none 0 0,.slice none 0 0,.slice none 0 0,.int .i64 PS] 39 o
  have e9:(wq.alloc (.cells #[.int .i64 2,.string TX,.slice z1 LT.shape.length m1,.slice z2 LT.cells.length m2,.int .i64 PS] 43)).heap.size=w.heap.size+1+1:=by simp [sq]
  rw [e9] at this
  exact this
 have HN:Hid (∀ W,Below W4.heap.size W4 W→(∀ o v,(#[.int .i64 0,.int .i64 0,.string ⟨#[]⟩,.slice none 0 0,.slice none 0 0,.slice none 0 0,.int .i64 PS]:Array Value)[o]?=some v→W.cell? ⟨w.heap.size+1+1,o,none⟩=some v)∧(∀ o,W.frozen? ⟨w.heap.size+1+1,o,none⟩=false)∧(∀ o,o < 7→∃ v,W.cell? ⟨w.heap.size,o,none⟩=some v)∧∀ o,W.frozen? ⟨w.heap.size,o,none⟩=false):=fun W hW =>
  ⟨fun o v ho=>(hW.cell (p:=⟨w.heap.size+1+1,o,none⟩) (by show w.heap.size+1+1 < _; omega)).trans (nc o v ho),fun o=>(hW.frozen (p:=⟨w.heap.size+1+1,o,none⟩) (by show w.heap.size+1+1 < _; omega)).trans (nf o),HRES.out W (b4q.trans (hW.mono b4q.size))⟩
 have HB4:=hide b4
 have HS4:=hide s4
 clear HBQ HDQ hW4 nc nf bq sq b4 b4q s4 HRES KS
 have HO4:=hide (HH.out.sp.sn.old.trans (HB4.out.mono HH.out.sp.sn.old.size))
 have HC:=hide (copied92 HG5.out HO4.out HGB.out.2.1 HGB.out.2.2)
 have w2:=wc 2 _ rfl
 have w3:=wc 3 _ rfl
 clear wc
 go_wp2_with fail
 refine HC.out.mono ?_
 rintro en w5 ⟨⟨d1,k1,d2,k2,rfl,hlit⟩,hb5⟩
 have HL5:=hide hlit
 have HB5:=hide hb5
 obtain ⟨xn,xf,xr,xg⟩:=HN.out _ hb5
 have x0:=xn 0 _ rfl
 have x1:=xn 1 _ rfl
 have x2:=xn 2 _ rfl
 have x3:=xn 3 _ rfl
 have x4:=xn 4 _ rfl
 have x5:=xn 5 _ rfl
 have x6:=xn 6 _ rfl
 have y0:=xf 0
 have y2:=xf 2
 have y3:=xf 3
 have y4:=xf 4
 obtain ⟨r0,R0⟩:=xr 0 (by omega)
 obtain ⟨r1,R1⟩:=xr 1 (by omega)
 obtain ⟨r2,R2⟩:=xr 2 (by omega)
 obtain ⟨r3,R3⟩:=xr 3 (by omega)
 obtain ⟨r4,R4⟩:=xr 4 (by omega)
 obtain ⟨r5,R5⟩:=xr 5 (by omega)
 obtain ⟨r6,R6⟩:=xr 6 (by omega)
 have G0:=xg 0
 have G1:=xg 1
 have G2:=xg 2
 have G3:=xg 3
 have G4:=xg 4
 have G5:=xg 5
 have G6:=xg 6
 clear xn xf xr xg HN
 clear hlit hb5 HC w2 w3
 have HFIN:Hid (∀ wf,But (Two2 w) w5 wf→But (TT inn p q) w wf∧∃ v m,(Ending.returned (.agg #[.int .i64 1,.int .i64 0,.string ⟨#[]⟩,.slice d1 LT.shape.length k1,.slice d2 LT.cells.length k2,.slice none 0 0,.int .i64 PS]):Ending)=.returned v∧Rd (n+1) w0 wf p g R ws A i e∧Tr (n+1) w0.heap.size m w.heap.size wf.heap.size wf (.mk 1 0 nost LT [] PS) v∧(inn=true→Nq wf p q (orN nm (false,false)))):=fun wf hf=>by
  have hb:=two_below HB4.out HB5.out hf
  refine ⟨But.of hb,_,1,rfl,HH.out.next hb,⟨d1,k1,d2,k2,none,0,rfl,(HL5.out.two HH.out.sp.sn.old.size HS4.out HB5.out.size hf hf.size).d,by simp [Nd.kids],Nat.zero_le _,Or.inl rfl⟩,fun hin=>?_⟩
  have:=(HNN.out hin).next hb
  cases nm with | mk l r=>simpa [orN] using this
 clear HL5 HB5 HB4 HS4 HH HNN HO4 HG5 HGB
 generalize LT.shape.length=L1 at *
 generalize LT.cells.length=L2 at *
 go_upto_region 15 with fail
 obtain ⟨w7,hw7⟩:∃ w7,(((w5.setCell ⟨w.heap.size+1+1,0,none⟩ (.int .i64 1)).setCell ⟨w.heap.size+1+1,3,none⟩ (.slice d1 L1 k1)).setCell ⟨w.heap.size+1+1,4,none⟩ (.slice d2 L2 k2))=w7:=⟨_,rfl⟩
 rw [hw7]
 have v0:w7.cell? ⟨w.heap.size+1+1,0,none⟩=some (.int .i64 1):=by rw [←hw7]; exact cs_off (by omega) (cs_off (by omega) (cs_same (x0)))
 have v1:w7.cell? ⟨w.heap.size+1+1,1,none⟩=some (.int .i64 0):=by rw [←hw7]; exact cs_off (by omega) (cs_off (by omega) (cs_off (by omega) (x1)))
 have v2:w7.cell? ⟨w.heap.size+1+1,2,none⟩=some (.string ⟨#[]⟩):=by rw [←hw7]; exact cs_off (by omega) (cs_off (by omega) (cs_off (by omega) (x2)))
 have v3:w7.cell? ⟨w.heap.size+1+1,3,none⟩=some (.slice d1 L1 k1):=by rw [←hw7]; exact cs_off (by omega) (cs_same (cs_off (by omega) (x3)))
 have v4:w7.cell? ⟨w.heap.size+1+1,4,none⟩=some (.slice d2 L2 k2):=by rw [←hw7]; exact cs_same (cs_off (by omega) (cs_off (by omega) (x4)))
 have v5:w7.cell? ⟨w.heap.size+1+1,5,none⟩=some (.slice none 0 0):=by rw [←hw7]; exact cs_off (by omega) (cs_off (by omega) (cs_off (by omega) (x5)))
 have v6:w7.cell? ⟨w.heap.size+1+1,6,none⟩=some (.int .i64 PS):=by rw [←hw7]; exact cs_off (by omega) (cs_off (by omega) (cs_off (by omega) (x6)))
 have Q0:w7.cell? ⟨w.heap.size,0,none⟩=some r0:=by rw [←hw7]; exact cs_off (by omega) (cs_off (by omega) (cs_off (by omega) R0))
 have F0:w7.frozen? ⟨w.heap.size,0,none⟩=false:=by rw [←hw7]; exact fs_any (fs_any (fs_any G0))
 have Q1:w7.cell? ⟨w.heap.size,1,none⟩=some r1:=by rw [←hw7]; exact cs_off (by omega) (cs_off (by omega) (cs_off (by omega) R1))
 have F1:w7.frozen? ⟨w.heap.size,1,none⟩=false:=by rw [←hw7]; exact fs_any (fs_any (fs_any G1))
 have Q2:w7.cell? ⟨w.heap.size,2,none⟩=some r2:=by rw [←hw7]; exact cs_off (by omega) (cs_off (by omega) (cs_off (by omega) R2))
 have F2:w7.frozen? ⟨w.heap.size,2,none⟩=false:=by rw [←hw7]; exact fs_any (fs_any (fs_any G2))
 have Q3:w7.cell? ⟨w.heap.size,3,none⟩=some r3:=by rw [←hw7]; exact cs_off (by omega) (cs_off (by omega) (cs_off (by omega) R3))
 have F3:w7.frozen? ⟨w.heap.size,3,none⟩=false:=by rw [←hw7]; exact fs_any (fs_any (fs_any G3))
 have Q4:w7.cell? ⟨w.heap.size,4,none⟩=some r4:=by rw [←hw7]; exact cs_off (by omega) (cs_off (by omega) (cs_off (by omega) R4))
 have F4:w7.frozen? ⟨w.heap.size,4,none⟩=false:=by rw [←hw7]; exact fs_any (fs_any (fs_any G4))
 have Q5:w7.cell? ⟨w.heap.size,5,none⟩=some r5:=by rw [←hw7]; exact cs_off (by omega) (cs_off (by omega) (cs_off (by omega) R5))
 have F5:w7.frozen? ⟨w.heap.size,5,none⟩=false:=by rw [←hw7]; exact fs_any (fs_any (fs_any G5))
 have Q6:w7.cell? ⟨w.heap.size,6,none⟩=some r6:=by rw [←hw7]; exact cs_off (by omega) (cs_off (by omega) (cs_off (by omega) R6))
 have F6:w7.frozen? ⟨w.heap.size,6,none⟩=false:=by rw [←hw7]; exact fs_any (fs_any (fs_any G6))
 have HB7:=hide (show But (Two2 w) w5 w7 by rw [←hw7]; exact butS (butS (butS (But.refl _ _) (Or.inl rfl)) (Or.inl rfl)) (Or.inl rfl))
 clear hw7 x0 x1 x2 x3 x4 x5 x6 y0 y2 y3 y4 R0 R1 R2 R3 R4 R5 R6 G0 G1 G2 G3 G4 G5 G6
 go_wp2
 refine bodyPost_ret (v:=.agg #[.int .i64 1,.int .i64 0,.string ⟨#[]⟩,.slice d1 L1 k1,.slice d2 L2 k2,.slice none 0 0,.int .i64 PS]) (by simp [results,Try.results85,go_sem,Q0,Q1,Q2,Q3,Q4,Q5,Q6]) rfl (HFIN.out _ ?_)
 repeat' first | with_reducible exact HB7.out | with_reducible exact two_r w | with_reducible refine butS ?_ ?_
end Go.Proofs.Ytnaejfoighmfeaa
