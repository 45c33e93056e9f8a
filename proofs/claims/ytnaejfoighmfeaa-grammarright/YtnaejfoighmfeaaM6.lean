import Derived.Test.YtnaejfoighmfeaaM5
import Derived.Laws.BitsAllLaws
import Derived.Lib.Bits
import Derived.Test.YtnaejfoighmfeaaChecked
import GoSem.Claim
import GoSem.ClaimJoined
import GoSem.ClaimMapViews
import Derived.JoinedTies
import Derived.KernelRfl
import Derived.WalkKit
import Derived.ProofKit
import Derived.Below
import Derived.Deep.QuietTactic
import Derived.BigQuiet
import Derived.Lib.SlBytesConst
import Derived.Laws.BytesArg
import Derived.Laws.MakeOwn
import Derived.Deep.RegionHeld3
import Derived.Laws.AppendOwnNone
import Derived.BigFrame
import Derived.OpenShut
import Derived.ChangeOld
import Derived.SizedLaws
import Derived.Deep.DeepHandedRow
import Derived.Lib.LaidTab
import Derived.Deep.OwnRows
import Derived.Deep.RegionWith
import Derived.Deep.Slices
import Derived.Deep.Strs
import Derived.Deep.LoopGhost
import Derived.Lib.ConvBytes
import Derived.Deep.RegionLaw
import Derived.Deep.CutRange
import Derived.Lib.SliceRun
import Derived.WalkLawsBesides
import Derived.Maps.AppendAt
import Derived.Deep.MidRow
import Derived.Defers
import Derived.Recover
import Derived.Deep.Cut
import Derived.ChangeMaps5
namespace Go.Proofs.Ytnaejfoighmfeaa
open Go.ChangeShapes Go.WideShapes Go.ChangeAt Go.RowKit
set_option maxRecDepth 100000
set_option linter.unusedVariables false
set_option linter.unusedSimpArgs false
theorem results_cell_mid {P:Program} {fn:Func} {p:Tmp} {ty:TypeId} (h:fn.results=#[.cell p ty]) (tmps:Array Value) (w:World) (b o:Nat) (hp:tmps.getD p undef=.pointer (some ⟨b,o,none⟩)) (cs:List Value) (d:TypeDesc) (hc:w.rangeAt b o cs)
  (hu:P.underlying ty=some d) (hd:d.isRow=true) (hi:(P.info? ty).map (·.size)=some cs.length) :
  (results fn tmps).run P w=.ok (.agg cs.toArray) w:=by
 have hp':tmps[p]?.getD undef=.pointer (some ⟨b,o,none⟩):=by simpa using hp
 simp [results,h,hp',asAddr,run_loadVar_mid w b o ty cs d hc hu hd hi]
theorem wpOp_run {P:Program} {ops:Array Oper} {Q:Exit→Act→World→Prop} {i:Nat} {o:Oper} {a:Act} {w w':World} {K:Act→World→Prop} {v:Value} (hi:ops[i]?=some o) (hg:o.guard=none) (hrun:(execOp a.eval o).run P w=.ok (.value v) w') (h:K (a.put o.dst v) w'):wpOp P ops Q i K a w:=by
 unfold wpOp
 rw [hi]
 have hw:Region.wanted o (yielded ops a.tmps)=true:=by simp [Region.wanted,hg]
 simp only [hw,if_true]
 refine Or.inl ?_
 unfold Oper.wp
 rw [hrun]
 exact h
theorem wpOp_call {P:Program} {ops:Array Oper} {Q:Exit→Act→World→Prop} {i:Nat} {o:Oper} {a:Act} {w:World} {K:Act→World→Prop} {f:FuncId} {args:Array Value} (hi:ops[i]?=some o) (hg:o.guard=none) (hrun:(execOp a.eval o).run P w=.ok (.enter f args) w) (h:Calls P f args w fun e w'=>∃ v,e=.returned v∧K (a.put o.dst v) w'):wpOp P ops Q i K a w:=by
 unfold wpOp
 rw [hi]
 have hw:Region.wanted o (yielded ops a.tmps)=true:=by simp [Region.wanted,hg]
 simp only [hw,if_true]
 refine Or.inl ?_
 unfold Oper.wp
 rw [hrun,Oper.upon_enter]
 exact h.mono fun e w' ⟨v,he,hk⟩=>by subst he; exact hk
theorem wpOp_skip {P:Program} {ops:Array Oper} {Q:Exit→Act→World→Prop} {i:Nat} {o:Oper} {a:Act} {w w':World} {K:Act→World→Prop} (hi:ops[i]?=some o) (hg:o.guard=none) (hrun:(execOp a.eval o).run P w=.ok .skip w') (h:K (a.put o.dst undef) w'):wpOp P ops Q i K a w:=by
 unfold wpOp
 rw [hi]
 have hw:Region.wanted o (yielded ops a.tmps)=true:=by simp [Region.wanted,hg]
 simp only [hw,if_true]
 refine Or.inl ?_
 unfold Oper.wp
 rw [hrun]
 exact h
theorem setCells_but (W:World) (b o:Nat) (vs:List Value):But (·=b) W (W.setCells b o vs):=by
 induction vs generalizing W o with
 | nil=>exact But.refl _ _
 | cons v vs ih=>exact (butS (T:=(·=b)) (But.refl _ _) rfl).trans (ih _ _) fun j _ hj=>hj
theorem setCells_frozen (W:World) (b o:Nat) (vs:List Value) (a:Addr) (h:W.frozen? a=false):(W.setCells b o vs).frozen? a=false:=by
 induction vs generalizing W o with
 | nil=>exact h
 | cons v vs ih=>exact ih _ _ (fs_any h)
theorem exec_store {P:Program} {ρ:Operand→Value} {o:Oper} {t:TypeId} {a x:Operand} {va vx:Value} {w w':World} (h:o.op=.store t a x) (ha:ρ a=va) (hx:ρ x=vx) (hr:(Instr.storeAt t va vx).run P w=.ok () w'):(execOp ρ o).run P w=.ok .skip w':=by
 unfold execOp
 simp only [h,ha,hx,Sem.run_bind,hr,Result.andThen_ok,Sem.run_pure]
theorem NRow.but {T:Nat→Prop} {w w':World} {b L:Nat} {f:Nat→Nat} (h:NRow w b L f) (hb:But T w w') (ht:¬ T b):NRow w' b L f :=
 ⟨Nat.lt_of_lt_of_le h.1 hb.size,fun i hi=>⟨(hb.cell (p:=⟨b,i,none⟩) h.1 ht).trans (h.2 i hi).1,(frozen_block (hb.block h.1 ht) i).trans (h.2 i hi).2⟩⟩
theorem NRow.ints {w:World} {p b L:Nat} {f:Nat→Nat} (h:NRow w b L f) (hp:b ≠ p) (lo:Nat):IntsIn w p (some ⟨b,0,none⟩) f lo L:=fun j _ h2=>⟨b,0,rfl,h.1,hp,by rw [Nat.zero_add]; exact (h.2 j h2).1⟩
theorem ints_none {w:World} {p:Nat} {a:Option Addr} {f:Nat→Nat} {L:Nat}:IntsIn w p a f L L:=fun j h1 h2=>by omega
abbrev snV (g:Gr) (R:Raw) (L:Nat):Value:=.agg #[.slice R.av g.verbs.length R.cv,.slice R.aa g.adverbs.length R.ca,.slice R.ab g.behind.length R.cb,.string g.outer,.string g.power,.string g.opn,.string g.cls,.string g.left,.string g.right,.string R.mi,.string R.qu,.bool g.trains,.bool g.lone,.bool g.square,.slice R.aw L R.cw]
def mR (ws:List Wo) (i:Nat) (w:World) (b:Nat):Prop:=match i with
 | 0=>NRow w b ws.length (cloV ws)
 | 4=>(∀ k v,(#[.slice none 0 0,.slice none 0 0,.slice none 0 0,.string ⟨#[]⟩,.string ⟨#[]⟩,.string ⟨#[]⟩,.string ⟨#[]⟩,.string ⟨#[]⟩,.string ⟨#[]⟩,.string ⟨#[]⟩,.string ⟨#[]⟩,.bool false,.bool false,.bool false,.slice none 0 0,.slice none 0 0,.slice none 0 0,.slice none 0 0,.slice none 0 0]:Array Value)[k]?=some v→w.cell? ⟨b,k,none⟩=some v)∧∀ k,w.frozen? ⟨b,k,none⟩=false
 | _=>NRow w b (ws.length+1) (fun _=>0)
def mV (L:Nat) (i:Nat) (b:Nat):Value:=match i with
 | 0=>.slice (some ⟨b,0,none⟩) L L
 | 4=>.pointer (some ⟨b,0,none⟩)
 | _=>.slice (some ⟨b,0,none⟩) (L+1) (L+1)
theorem mR_keep (ws:List Wo) (i:Nat) (w w':World) (b:Nat) (hb:Below w.heap.size w w') (hl:b < w.heap.size) (h:mR ws i w b):mR ws i w' b:=by
 rcases i with _ | _ | _ | _ | _ | i
 ·exact NRow.keep h hb hl
 ·exact NRow.keep h hb hl
 ·exact NRow.keep h hb hl
 ·exact NRow.keep h hb hl
 ·exact ⟨fun k v hv=>(hb.cell (p:=⟨b,k,none⟩) hl).trans (h.1 k v hv),fun k=>(hb.frozen (p:=⟨b,k,none⟩) hl).trans (h.2 k)⟩
 ·exact NRow.keep h hb hl
theorem chA_eval {s0 s1 s2 s3 s4:Nat} {val:Nat→Nat→Value} {done:Nat→Bool} {D:Nat→Nat} {A0:Act} (x:Nat) (h0:x ≠ s0) (h1:x ≠ s1) (h2:x ≠ s2) (h3:x ≠ s3) (h4:x ≠ s4):(chA s0 s1 s2 s3 s4 val done D A0).eval (.tmp x)=A0.eval (.tmp x):=by
 unfold chA
 rw [pB_eval _ _ _ (fun e=>by cases e; exact h4 rfl),pB_eval _ _ _ (fun e=>by cases e; exact h3 rfl),pB_eval _ _ _ (fun e=>by cases e; exact h2 rfl),pB_eval _ _ _ (fun e=>by cases e; exact h1 rfl),pB_eval _ _ _ (fun e=>by cases e; exact h0 rfl)]
theorem chA_tmps {s0 s1 s2 s3 s4:Nat} {val:Nat→Nat→Value} {done:Nat→Bool} {D:Nat→Nat} {A0:Act} (x:Nat) (h0:x ≠ s0) (h1:x ≠ s1) (h2:x ≠ s2) (h3:x ≠ s3) (h4:x ≠ s4):(chA s0 s1 s2 s3 s4 val done D A0).tmps[x]?.getD undef=A0.tmps[x]?.getD undef:=by
 have h:=chA_eval (val:=val) (done:=done) (D:=D) (A0:=A0) x h0 h1 h2 h3 h4
 simpa [Act.eval] using h
theorem put_same (a:Act) (d:Nat) (v:Value) (h:d < a.tmps.size):(a.put (some d) v).eval (.tmp d)=v:=by
 simp [Act.put,Act.eval,h]
theorem put_size (a:Act) (d:Option Nat) (v:Value):(a.put d v).tmps.size=a.tmps.size:=by
 cases d <;> simp [Act.put]
theorem pB_size (f:Bool) (d:Nat) (v:Value) (a:Act):(pB f d v a).tmps.size=a.tmps.size:=by
 cases f with
 | false=>rfl
 | true=>exact put_size a (some d) v
theorem chA_size {s0 s1 s2 s3 s4:Nat} {val:Nat→Nat→Value} {done:Nat→Bool} {D:Nat→Nat} {A0:Act}:(chA s0 s1 s2 s3 s4 val done D A0).tmps.size=A0.tmps.size:=by
 unfold chA
 rw [pB_size,pB_size,pB_size,pB_size,pB_size]
theorem chA_four {s0 s1 s2 s3 s4:Nat} {val:Nat→Nat→Value} {done:Nat→Bool} {D:Nat→Nat} {A0:Act} (hd:done 4=true) (h:s4 < A0.tmps.size):(chA s0 s1 s2 s3 s4 val done D A0).eval (.tmp s4)=val 4 (D 4):=by
 unfold chA
 rw [hd]
 exact put_same _ _ _ (by rw [pB_size,pB_size,pB_size,pB_size]; exact h)
theorem drive0 {P:Program} {ops:Array Oper} {Q:Exit→Act→World→Prop} {R:Nat→World→Nat→Prop} {w3 w:World} {s0 s1 s2 s3 s4 s5:Nat} {val:Nat→Nat→Value} {vb:(Nat→Nat)→Value} {A0:Act} (hw:Below w3.heap.size w3 w)
  (h01:s0 ≠ s1) (h02:s0 ≠ s2) (h03:s0 ≠ s3) (h04:s0 ≠ s4) (h12:s1 ≠ s2) (h13:s1 ≠ s3) (h14:s1 ≠ s4) (h23:s2 ≠ s3) (h24:s2 ≠ s4) (h34:s3 ≠ s4) (h45:s4 ≠ s5)
  (hR:∀ i w w' b,Below w.heap.size w w'→b < w.heap.size→R i w b→R i w' b)
  (hr:∀ c x y z b m s,Region.ready .any ops (lst c x y z b m s)=rdy c x y z b m s)
  (T:∀ (o i s:Nat),(o=3∧i=0∧s=s0) ∨ (o=5∧i=1∧s=s1) ∨ (o=7∧i=2∧s=s2) ∨ (o=9∧i=3∧s=s3)→∀ done D w,Mj R w3 done D w→∀ K:Act→World→Prop,(∀ b w',Below w.heap.size w w'→w.heap.size≤b→b < w'.heap.size→R i w' b→K ((chA s0 s1 s2 s3 s4 val done D A0).put (some s) (val i b)) w')→wpOp P ops Q o K (chA s0 s1 s2 s3 s4 val done D A0) w)
  (T4:∀ a w (K:Act→World→Prop),(∀ b w',Below w.heap.size w w'→w.heap.size≤b→b < w'.heap.size→R 4 w' b→K (a.put (some s4) (val 4 b)) w')→wpOp P ops Q 11 K a w)
  (TB:∀ m D w (K:Act→World→Prop),K ((chA s0 s1 s2 s3 s4 val (dn true true true true m) D A0).put (some s5) (vb D)) w→wpOp P ops Q 10 K (chA s0 s1 s2 s3 s4 val (dn true true true true m) D A0) w)
  (hvb:∀ D b,vb (updD D 4 b)=vb D)
  (TE:∀ D w,Mj R w3 (dn true true true true true) D w→wpOp P ops Q 12 (fun a' w'=>Below w3.heap.size w3 w'∧Q .normal a' w') ((chA s0 s1 s2 s3 s4 val (dn true true true true true) D A0).put (some s5) (vb D)) w) :
  wpAnyH P .any ops Q (fun W=>Below w3.heap.size w3 W) 7 (lst false false false false false false false) A0 w :=
 drive h01 h02 h03 h04 h12 h13 h14 h23 h24 h34 h45 hR hr T T4 TB hvb TE 5 false false false false false rfl (fun _=>0) w ⟨hw,(fun i hi=>by
  rcases i with _ | _ | _ | _ | _ | i <;> simp [dn] at hi),(fun i j hi=>by
  rcases i with _ | _ | _ | _ | _ | i <;> simp [dn] at hi)⟩
def GvM (n:Nat) (w0 w:World) (g:Gr) (R:Raw) (ws:List Wo) (en:Ending) (w':World):Prop:=∃ bc bt ba bb:Nat,en=.returned (.agg #[.slice R.av g.verbs.length R.cv,.slice R.aa g.adverbs.length R.ca,.slice R.ab g.behind.length R.cb,.string g.outer,.string g.power,.string g.opn,.string g.cls,.string g.left,.string g.right,.string R.mi,.string R.qu,.bool g.trains,.bool g.lone,.bool g.square,.slice R.aw ws.length R.cw,.slice (some ⟨bc,0,none⟩) ws.length ws.length,.slice (some ⟨bt,0,none⟩) (ws.length+1) (ws.length+1),.slice (some ⟨ba,0,none⟩) (ws.length+1) (ws.length+1),.slice (some ⟨bb,0,none⟩) (ws.length+1) (ws.length+1)])∧Below w.heap.size w w'∧(bc < w'.heap.size∧bt < w'.heap.size∧ba < w'.heap.size∧bb < w'.heap.size)∧(w.heap.size≤bc∧w.heap.size≤bt∧w.heap.size≤ba∧w.heap.size≤bb)∧∀ p,w'.heap.size≤p→IntsIn w' p (some ⟨bc,0,none⟩) (cloV ws) 0 ws.length∧IntsIn w' p (some ⟨bt,0,none⟩) (tailV g ws) 0 (ws.length+1)∧IntsIn w' p (some ⟨ba,0,none⟩) (wholeV g false ws) 0 (ws.length+1)∧IntsIn w' p (some ⟨bb,0,none⟩) (wholeV g true ws) 0 (ws.length+1)
theorem IntsIn.final {T:Nat→Prop} {w w':World} {p p' b:Nat} {f:Nat→Nat} {lo hi:Nat} (h:IntsIn w p (some ⟨b,0,none⟩) f lo hi) (hb:But T w w') (ht:¬ T b) (hp:w'.heap.size≤p'):IntsIn w' p' (some ⟨b,0,none⟩) f lo hi:=fun j h1 h2=>by
 obtain ⟨b',off,ha,hl,-,hc⟩:=h j h1 h2
 cases ha
 have hs:=hb.size
 exact ⟨b,0,rfl,by omega,by omega,(hb.cell (p:=⟨b,0+j,none⟩) hl ht).trans hc⟩
set_option maxHeartbeats 8000000 in
theorem measure20 {n:Nat} {w0 w:World} {g:Gr} {R:Raw} {ws:List Wo} (ho:Below w0.heap.size w0 w) (sv:StrsIn w0 R.av g.verbs) (sa:StrsIn w0 R.aa g.adverbs) (sb:StrsIn w0 R.ab g.behind) (wo:WoIn n w0 R.aw ws) :
  Calls Try.prog 20 #[snV g R ws.length] w fun en w'=>GvM n w0 w g R ws en w':=by
 have hL:=wo.1
 obtain ⟨W2,hW2⟩:∃ W2,(w.alloc (.cells #[.slice R.av g.verbs.length R.cv,.slice R.aa g.adverbs.length R.ca,.slice R.ab g.behind.length R.cb,.string g.outer,.string g.power,.string g.opn,.string g.cls,.string g.left,.string g.right,.string R.mi,.string R.qu,.bool g.trains,.bool g.lone,.bool g.square,.slice R.aw ws.length R.cw] 55)).alloc (.cells #[.slice none 0 0,.slice none 0 0,.slice none 0 0,.string ⟨#[]⟩,.string ⟨#[]⟩,.string ⟨#[]⟩,.string ⟨#[]⟩,.string ⟨#[]⟩,.string ⟨#[]⟩,.string ⟨#[]⟩,.string ⟨#[]⟩,.bool false,.bool false,.bool false,.slice none 0 0,.slice none 0 0,.slice none 0 0,.slice none 0 0,.slice none 0 0] 57)=W2:=⟨_,rfl⟩
 have b2:Below w.heap.size w W2:=by rw [←hW2]; exact two_allocs _ _ _
 have s2:W2.heap.size=w.heap.size+2:=by rw [←hW2]; simp
 have HC30:=hide (fun W (hW:Below W2.heap.size W2 W)=>closers30 wo (ho.trans ((b2.trans (hW.mono b2.size)).mono ho.size)) R.cw (w:=W))
 have cS:∀ k v,(#[.slice R.av g.verbs.length R.cv,.slice R.aa g.adverbs.length R.ca,.slice R.ab g.behind.length R.cb,.string g.outer,.string g.power,.string g.opn,.string g.cls,.string g.left,.string g.right,.string R.mi,.string R.qu,.bool g.trains,.bool g.lone,.bool g.square,.slice R.aw ws.length R.cw]:Array Value)[k]?=some v→W2.cell? ⟨w.heap.size,k,none⟩=some v:=fun k v hv=>by
  rw [←hW2]
  exact (((one_alloc _ _).cell (p:=⟨w.heap.size,k,none⟩) (by simp)).trans (cell_new0 w #[.slice R.av g.verbs.length R.cv,.slice R.aa g.adverbs.length R.ca,.slice R.ab g.behind.length R.cb,.string g.outer,.string g.power,.string g.opn,.string g.cls,.string g.left,.string g.right,.string R.mi,.string R.qu,.bool g.trains,.bool g.lone,.bool g.square,.slice R.aw ws.length R.cw] 55 k v hv))
 have RV2:Hid (W2.there (w.heap.size+1) 0 19):=fun j hj=>by
  obtain ⟨v,hv⟩:∃ v,(#[.slice none 0 0,.slice none 0 0,.slice none 0 0,.string ⟨#[]⟩,.string ⟨#[]⟩,.string ⟨#[]⟩,.string ⟨#[]⟩,.string ⟨#[]⟩,.string ⟨#[]⟩,.string ⟨#[]⟩,.string ⟨#[]⟩,.bool false,.bool false,.bool false,.slice none 0 0,.slice none 0 0,.slice none 0 0,.slice none 0 0,.slice none 0 0]:Array Value)[j]?=some v:=⟨_,Array.getElem?_eq_getElem (by simpa using hj)⟩
  have h9:=cell_new0 (w.alloc (.cells #[.slice R.av g.verbs.length R.cv,.slice R.aa g.adverbs.length R.ca,.slice R.ab g.behind.length R.cb,.string g.outer,.string g.power,.string g.opn,.string g.cls,.string g.left,.string g.right,.string R.mi,.string R.qu,.bool g.trains,.bool g.lone,.bool g.square,.slice R.aw ws.length R.cw] 55)) #[.slice none 0 0,.slice none 0 0,.slice none 0 0,.string ⟨#[]⟩,.string ⟨#[]⟩,.string ⟨#[]⟩,.string ⟨#[]⟩,.string ⟨#[]⟩,.string ⟨#[]⟩,.string ⟨#[]⟩,.string ⟨#[]⟩,.bool false,.bool false,.bool false,.slice none 0 0,.slice none 0 0,.slice none 0 0,.slice none 0 0,.slice none 0 0] 57 j v hv
  have hs:(w.alloc (.cells #[.slice R.av g.verbs.length R.cv,.slice R.aa g.adverbs.length R.ca,.slice R.ab g.behind.length R.cb,.string g.outer,.string g.power,.string g.opn,.string g.cls,.string g.left,.string g.right,.string R.mi,.string R.qu,.bool g.trains,.bool g.lone,.bool g.square,.slice R.aw ws.length R.cw] 55)).heap.size=w.heap.size+1:=by simp
  have f9:((w.alloc (.cells #[.slice R.av g.verbs.length R.cv,.slice R.aa g.adverbs.length R.ca,.slice R.ab g.behind.length R.cb,.string g.outer,.string g.power,.string g.opn,.string g.cls,.string g.left,.string g.right,.string R.mi,.string R.qu,.bool g.trains,.bool g.lone,.bool g.square,.slice R.aw ws.length R.cw] 55)).alloc (.cells #[.slice none 0 0,.slice none 0 0,.slice none 0 0,.string ⟨#[]⟩,.string ⟨#[]⟩,.string ⟨#[]⟩,.string ⟨#[]⟩,.string ⟨#[]⟩,.string ⟨#[]⟩,.string ⟨#[]⟩,.string ⟨#[]⟩,.bool false,.bool false,.bool false,.slice none 0 0,.slice none 0 0,.slice none 0 0,.slice none 0 0,.slice none 0 0] 57)).frozen? ⟨(w.alloc (.cells #[.slice R.av g.verbs.length R.cv,.slice R.aa g.adverbs.length R.ca,.slice R.ab g.behind.length R.cb,.string g.outer,.string g.power,.string g.opn,.string g.cls,.string g.left,.string g.right,.string R.mi,.string R.qu,.bool g.trains,.bool g.lone,.bool g.square,.slice R.aw ws.length R.cw] 55)).heap.size,j,none⟩=false:=frozen_new _ _ _ _
  rw [hW2,hs] at h9 f9
  exact ⟨by rw [Nat.zero_add,h9]; rfl,by rw [Nat.zero_add]; exact f9⟩
 have KS:Hid (∀ W,Below W2.heap.size W2 W→∀ k v,(#[.slice R.av g.verbs.length R.cv,.slice R.aa g.adverbs.length R.ca,.slice R.ab g.behind.length R.cb,.string g.outer,.string g.power,.string g.opn,.string g.cls,.string g.left,.string g.right,.string R.mi,.string R.qu,.bool g.trains,.bool g.lone,.bool g.square,.slice R.aw ws.length R.cw]:Array Value)[k]?=some v→W.cell? ⟨w.heap.size,k,none⟩=some v):=fun W hW k v hv=>(hW.cell (p:=⟨w.heap.size,k,none⟩) (by show w.heap.size < _; omega)).trans (cS k v hv)
 have HD0:Hid (Below W2.heap.size W2 W2.drew):=(Below.refl _ _).drew
 have HMK:=hide (fun W=>mk33 (ws.length+1) (by omega) W)
 have HE:=hide hW2
 have cw14:=cS 14 _ rfl
 clear hW2
 obtain ⟨L,hLL⟩:∃ L,ws.length=L:=⟨_,rfl⟩
 rw [hLL] at KS HE hL HMK cw14 ⊢
 simp only [hLL] at HC30
 have hM1:IntKind.i64.wrap ((L:Int)+1)=((L+1:Nat):Int):=(IntWalk.i64_in _ ⟨by omega,by omega⟩).trans (by omega)
 go_enter Try.func20,Try.ntmps20
 go_upto_region 1 with fail
 rw [HE.out]
 go_upto_region 2 with fail
 refine wp_region_held (S:=fun W=>Below W2.heap.size W2 W) (Eq.refl true) ?_
 refine wpAnyH_take (i:=0) (v:=.agg #[.slice R.av g.verbs.length R.cv,.slice R.aa g.adverbs.length R.ca,.slice R.ab g.behind.length R.cb,.string g.outer,.string g.power,.string g.opn,.string g.cls,.string g.left,.string g.right,.string R.mi,.string R.qu,.bool g.trains,.bool g.lone,.bool g.square,.slice R.aw L R.cw]) rfl (by kernel_rfl) (by kernel_rfl) (by kernel_rfl) (fun _ _ _ hh=>hh) (Or.inl ⟨rfl,fun W hW=>?_⟩) HD0.out ?_
 ·have hc:=KS.out W hW
  have g0:=hc 0 _ rfl
  have g1:=hc 1 _ rfl
  have g2:=hc 2 _ rfl
  have g3:=hc 3 _ rfl
  have g4:=hc 4 _ rfl
  have g5:=hc 5 _ rfl
  have g6:=hc 6 _ rfl
  have g7:=hc 7 _ rfl
  have g8:=hc 8 _ rfl
  have g9:=hc 9 _ rfl
  have g10:=hc 10 _ rfl
  have g11:=hc 11 _ rfl
  have g12:=hc 12 _ rfl
  have g13:=hc 13 _ rfl
  have g14:=hc 14 _ rfl
  go_simp
 refine wpAnyH_take (i:=1) (v:=.pointer (some ⟨w.heap.size,14,none⟩)) rfl (by kernel_rfl) (by kernel_rfl) (by kernel_rfl) (fun _ _ _ hh=>hh) (Or.inl ⟨rfl,fun W hW=>?_⟩) HD0.out ?_
 ·go_simp
 refine wpAnyH_take (i:=2) (v:=.slice R.aw L R.cw) rfl (by kernel_rfl) (by kernel_rfl) (by kernel_rfl) (fun _ _ _ hh=>hh) (Or.inl ⟨rfl,fun W hW=>?_⟩) HD0.out ?_
 ·have g14:=KS.out W hW 14 _ rfl
  go_simp
 refine wpAnyH_take (i:=4) (v:=.int .i64 ((L+1:Nat):Int)) rfl (by kernel_rfl) (by kernel_rfl) (by kernel_rfl) (fun _ _ _ hh=>hh) (Or.inl ⟨rfl,fun W hW=>?_⟩) HD0.out ?_
 ·go_simp
 refine wpAnyH_take (i:=6) (v:=.int .i64 ((L+1:Nat):Int)) rfl (by kernel_rfl) (by kernel_rfl) (by kernel_rfl) (fun _ _ _ hh=>hh) (Or.inl ⟨rfl,fun W hW=>?_⟩) HD0.out ?_
 ·go_simp
 refine wpAnyH_take (i:=8) (v:=.int .i64 ((L+1:Nat):Int)) rfl (by kernel_rfl) (by kernel_rfl) (by kernel_rfl) (fun _ _ _ hh=>hh) (Or.inl ⟨rfl,fun W hW=>?_⟩) HD0.out ?_
 ·go_simp
 refine drive0 (R:=mR ws) (s0:=13) (s1:=15) (s2:=17) (s3:=19) (s4:=4) (s5:=20) (val:=mV L) (vb:=fun D=>.agg #[.slice R.av g.verbs.length R.cv,.slice R.aa g.adverbs.length R.ca,.slice R.ab g.behind.length R.cb,.string g.outer,.string g.power,.string g.opn,.string g.cls,.string g.left,.string g.right,.string R.mi,.string R.qu,.bool g.trains,.bool g.lone,.bool g.square,.slice R.aw L R.cw,.slice (some ⟨D 0,0,none⟩) L L,.slice (some ⟨D 1,0,none⟩) (L+1) (L+1),.slice (some ⟨D 2,0,none⟩) (L+1) (L+1),.slice (some ⟨D 3,0,none⟩) (L+1) (L+1)]) HD0.out (by decide) (by decide) (by decide) (by decide) (by decide) (by decide) (by decide) (by decide) (by decide) (by decide) (by decide) (mR_keep ws) (by intro c x y z b m s; cases c <;> cases x <;> cases y <;> cases z <;> cases b <;> cases m <;> cases s <;> kernel_rfl) ?_ ?_ ?_ (fun D b=>rfl) ?_
 ·intro o i s hcase done D W hM K hK
  rcases hcase with ⟨rfl,rfl,rfl⟩ | ⟨rfl,rfl,rfl⟩ | ⟨rfl,rfl,rfl⟩ | ⟨rfl,rfl,rfl⟩
  ·refine wpOp_call (f:=30) (args:=#[.slice R.aw L R.cw]) rfl rfl ?_ ?_
   ·go_simp
    rw [chA_tmps (s0:=13) (s1:=15) (s2:=17) (s3:=19) (s4:=4) 12 (by decide) (by decide) (by decide) (by decide) (by decide)]
    go_simp
   ·refine (HC30.out W hM.below).mono fun e w' hh=>?_
    obtain ⟨rfl,hb,hn⟩:=hh
    exact ⟨_,rfl,hK W.heap.size w' hb (Nat.le_refl _) hn.1 (by show NRow w' W.heap.size ws.length (cloV ws); rw [hLL]; exact hn)⟩
  ·refine wpOp_run (w':=W.alloc (.cells (madeCells #[.int .i64 0] (L+1)) 3)) (v:=.slice (some ⟨W.heap.size,0,none⟩) (L+1) (L+1)) rfl rfl ?_ ?_
   ·go_simp
    rw [chA_tmps (s0:=13) (s1:=15) (s2:=17) (s3:=19) (s4:=4) 14 (by decide) (by decide) (by decide) (by decide) (by decide)]
    have hm:=HMK.out W
    rw [show ((L+1:Nat):Int)=(L:Int)+1 by simp] at hm
    go_simp
   ·exact hK W.heap.size _ (one_alloc _ _) (Nat.le_refl _) (by simp) (by show NRow _ _ (ws.length+1) _; rw [hLL]; exact ⟨by simp,fun i hi=>⟨made_cell _ _ hi _,frozen_new _ _ _ _⟩⟩)
  ·refine wpOp_run (w':=W.alloc (.cells (madeCells #[.int .i64 0] (L+1)) 3)) (v:=.slice (some ⟨W.heap.size,0,none⟩) (L+1) (L+1)) rfl rfl ?_ ?_
   ·go_simp
    rw [chA_tmps (s0:=13) (s1:=15) (s2:=17) (s3:=19) (s4:=4) 16 (by decide) (by decide) (by decide) (by decide) (by decide)]
    have hm:=HMK.out W
    rw [show ((L+1:Nat):Int)=(L:Int)+1 by simp] at hm
    go_simp
   ·exact hK W.heap.size _ (one_alloc _ _) (Nat.le_refl _) (by simp) (by show NRow _ _ (ws.length+1) _; rw [hLL]; exact ⟨by simp,fun i hi=>⟨made_cell _ _ hi _,frozen_new _ _ _ _⟩⟩)
  ·refine wpOp_run (w':=W.alloc (.cells (madeCells #[.int .i64 0] (L+1)) 3)) (v:=.slice (some ⟨W.heap.size,0,none⟩) (L+1) (L+1)) rfl rfl ?_ ?_
   ·go_simp
    rw [chA_tmps (s0:=13) (s1:=15) (s2:=17) (s3:=19) (s4:=4) 18 (by decide) (by decide) (by decide) (by decide) (by decide)]
    have hm:=HMK.out W
    rw [show ((L+1:Nat):Int)=(L:Int)+1 by simp] at hm
    go_simp
   ·exact hK W.heap.size _ (one_alloc _ _) (Nat.le_refl _) (by simp) (by show NRow _ _ (ws.length+1) _; rw [hLL]; exact ⟨by simp,fun i hi=>⟨made_cell _ _ hi _,frozen_new _ _ _ _⟩⟩)
 ·intro a W K hK
  refine wpOp_run (w':=W.alloc (.cells #[.slice none 0 0,.slice none 0 0,.slice none 0 0,.string ⟨#[]⟩,.string ⟨#[]⟩,.string ⟨#[]⟩,.string ⟨#[]⟩,.string ⟨#[]⟩,.string ⟨#[]⟩,.string ⟨#[]⟩,.string ⟨#[]⟩,.bool false,.bool false,.bool false,.slice none 0 0,.slice none 0 0,.slice none 0 0,.slice none 0 0,.slice none 0 0] 57)) (v:=.pointer (some ⟨W.heap.size,0,none⟩)) rfl rfl ?_ ?_
  ·go_simp
  ·exact hK W.heap.size _ (one_alloc _ _) (Nat.le_refl _) (by simp) ⟨fun k v hv=>cell_new0 W _ 57 k v hv,fun k=>frozen_new _ _ _ _⟩
 ·intro m D W K hK
  refine wpOp_run rfl rfl ?_ hK
  simp only [chA,dn,pB,if_true,mV]
  cases m <;> go_simp
 ·intro D W hM
  obtain ⟨h41,h42,h43⟩:=hM.each 4 rfl
  obtain ⟨hz,hf⟩:(∀ k v,(#[.slice none 0 0,.slice none 0 0,.slice none 0 0,.string ⟨#[]⟩,.string ⟨#[]⟩,.string ⟨#[]⟩,.string ⟨#[]⟩,.string ⟨#[]⟩,.string ⟨#[]⟩,.string ⟨#[]⟩,.string ⟨#[]⟩,.bool false,.bool false,.bool false,.slice none 0 0,.slice none 0 0,.slice none 0 0,.slice none 0 0,.slice none 0 0]:Array Value)[k]?=some v→W.cell? ⟨D 4,k,none⟩=some v)∧∀ k,W.frozen? ⟨D 4,k,none⟩=false:=h43
  obtain ⟨W9,hW9⟩:∃ W9,W.setCells (D 4) 0 [.slice R.av g.verbs.length R.cv,.slice R.aa g.adverbs.length R.ca,.slice R.ab g.behind.length R.cb,.string g.outer,.string g.power,.string g.opn,.string g.cls,.string g.left,.string g.right,.string R.mi,.string R.qu,.bool g.trains,.bool g.lone,.bool g.square,.slice R.aw L R.cw,.slice (some ⟨D 0,0,none⟩) L L,.slice (some ⟨D 1,0,none⟩) (L+1) (L+1),.slice (some ⟨D 2,0,none⟩) (L+1) (L+1),.slice (some ⟨D 3,0,none⟩) (L+1) (L+1)]=W9:=⟨_,rfl⟩
  have HTH:W.there (D 4) 0 19:=fun j hj=>by
   obtain ⟨v,hv⟩:∃ v,(#[.slice none 0 0,.slice none 0 0,.slice none 0 0,.string ⟨#[]⟩,.string ⟨#[]⟩,.string ⟨#[]⟩,.string ⟨#[]⟩,.string ⟨#[]⟩,.string ⟨#[]⟩,.string ⟨#[]⟩,.string ⟨#[]⟩,.bool false,.bool false,.bool false,.slice none 0 0,.slice none 0 0,.slice none 0 0,.slice none 0 0,.slice none 0 0]:Array Value)[j]?=some v:=⟨_,Array.getElem?_eq_getElem (by simpa using hj)⟩
   have h9:=hz j v hv
   exact ⟨by rw [Nat.zero_add,h9]; rfl,by rw [Nat.zero_add]; exact hf j⟩
  refine wpOp_skip (w':=W9) rfl rfl (exec_store (t:=57) (a:=.tmp 4) (x:=.tmp 20) (va:=.pointer (some ⟨D 4,0,none⟩)) (vx:=.agg #[.slice R.av g.verbs.length R.cv,.slice R.aa g.adverbs.length R.ca,.slice R.ab g.behind.length R.cb,.string g.outer,.string g.power,.string g.opn,.string g.cls,.string g.left,.string g.right,.string R.mi,.string R.qu,.bool g.trains,.bool g.lone,.bool g.square,.slice R.aw L R.cw,.slice (some ⟨D 0,0,none⟩) L L,.slice (some ⟨D 1,0,none⟩) (L+1) (L+1),.slice (some ⟨D 2,0,none⟩) (L+1) (L+1),.slice (some ⟨D 3,0,none⟩) (L+1) (L+1)]) rfl ((Act.eval_put (dst:=some 20) (fun k hk=>by cases hk; intro e; cases e)).trans (chA_four rfl (Nat.lt_of_lt_of_eq (by decide:4 < 46) rfl))) (put_same _ 20 _ (by rw [chA_size]; exact Nat.lt_of_lt_of_eq (by decide:20 < 46) rfl)) (by rw [←hW9]; exact run_storeAt_mid W (D 4) 0 57 _ HTH (by kernel_rfl) (by simp [Value.oneCell']))) ?_
  have b9:=setCells_but W (D 4) 0 [.slice R.av g.verbs.length R.cv,.slice R.aa g.adverbs.length R.ca,.slice R.ab g.behind.length R.cb,.string g.outer,.string g.power,.string g.opn,.string g.cls,.string g.left,.string g.right,.string R.mi,.string R.qu,.bool g.trains,.bool g.lone,.bool g.square,.slice R.aw L R.cw,.slice (some ⟨D 0,0,none⟩) L L,.slice (some ⟨D 1,0,none⟩) (L+1) (L+1),.slice (some ⟨D 2,0,none⟩) (L+1) (L+1),.slice (some ⟨D 3,0,none⟩) (L+1) (L+1)]
  rw [hW9] at b9
  have hB9:Below W2.heap.size W2 W9:=hM.below.trans (b9.below hM.below.size fun k hk=>by omega)
  have h9s:=b9.size
  obtain ⟨h01,h02,h03⟩:=hM.each 0 rfl
  obtain ⟨h11,h12,h13⟩:=hM.each 1 rfl
  obtain ⟨h21,h22,h23⟩:=hM.each 2 rfl
  obtain ⟨h31,h32,h33⟩:=hM.each 3 rfl
  have n01:=hM.inj 0 1 rfl rfl (by decide)
  have n02:=hM.inj 0 2 rfl rfl (by decide)
  have n03:=hM.inj 0 3 rfl rfl (by decide)
  have n04:=hM.inj 0 4 rfl rfl (by decide)
  have n12:=hM.inj 1 2 rfl rfl (by decide)
  have n13:=hM.inj 1 3 rfl rfl (by decide)
  have n14:=hM.inj 1 4 rfl rfl (by decide)
  have n23:=hM.inj 2 3 rfl rfl (by decide)
  have n24:=hM.inj 2 4 rfl rfl (by decide)
  have n34:=hM.inj 3 4 rfl rfl (by decide)
  have hrg:=World.rangeAt_setCells_same W (D 4) 0 [.slice R.av g.verbs.length R.cv,.slice R.aa g.adverbs.length R.ca,.slice R.ab g.behind.length R.cb,.string g.outer,.string g.power,.string g.opn,.string g.cls,.string g.left,.string g.right,.string R.mi,.string R.qu,.bool g.trains,.bool g.lone,.bool g.square,.slice R.aw L R.cw,.slice (some ⟨D 0,0,none⟩) L L,.slice (some ⟨D 1,0,none⟩) (L+1) (L+1),.slice (some ⟨D 2,0,none⟩) (L+1) (L+1),.slice (some ⟨D 3,0,none⟩) (L+1) (L+1)] HTH
  rw [hW9] at hrg
  have cc:∀ k v,([.slice R.av g.verbs.length R.cv,.slice R.aa g.adverbs.length R.ca,.slice R.ab g.behind.length R.cb,.string g.outer,.string g.power,.string g.opn,.string g.cls,.string g.left,.string g.right,.string R.mi,.string R.qu,.bool g.trains,.bool g.lone,.bool g.square,.slice R.aw L R.cw,.slice (some ⟨D 0,0,none⟩) L L,.slice (some ⟨D 1,0,none⟩) (L+1) (L+1),.slice (some ⟨D 2,0,none⟩) (L+1) (L+1),.slice (some ⟨D 3,0,none⟩) (L+1) (L+1)]:List Value)[k]?=some v→W9.cell? ⟨D 4,k,none⟩=some v:=fun k v hv=>by
   have:=hrg k v hv
   rw [Nat.zero_add] at this
   exact this
  have r0:NRow W9 (D 0) ws.length (cloV ws):=NRow.but h03 b9 n04
  have r1:NRow W9 (D 1) (ws.length+1) (fun _=>0):=NRow.but h13 b9 n14
  have r2:NRow W9 (D 2) (ws.length+1) (fun _=>0):=NRow.but h23 b9 n24
  have r3:NRow W9 (D 3) (ws.length+1) (fun _=>0):=NRow.but h33 b9 n34
  have hrv:W9.there (w.heap.size+1) 0 19:=there_next RV2.out (by omega) hB9
  have MS0:Hid (Ms n w0 w g R ws (D 4) (D 0) (D 1) (D 2) (D 3) (L+1) (L+1) (L+1) W9):=by
   have hw9:Below w.heap.size w W9:=b2.trans (hB9.mono b2.size)
   refine ⟨hw9,⟨⟨ho.trans (hw9.mono ho.size),by have:=ho.size; omega,by omega,cc 0 _ rfl,cc 1 _ rfl,cc 2 _ rfl,cc 3 _ rfl,cc 4 _ rfl,cc 5 _ rfl,cc 6 _ rfl,cc 7 _ rfl,cc 8 _ rfl,cc 11 _ rfl,cc 12 _ rfl,cc 13 _ rfl,by rw [hLL]; exact cc 14 _ rfl,sv,sa,sb,wo⟩,?_,?_,?_,?_,r0.ints n04 0,?_,?_,?_⟩,⟨_,r1⟩,⟨_,r2⟩,⟨_,r3⟩,hrv,r0.1,cc 9 _ rfl,cc 10 _ rfl,⟨n14,n24,n34⟩,⟨n01,n02,n03⟩,⟨n12,n13,n23⟩,⟨by omega,by omega,by omega,by omega,by omega⟩,ho.size⟩
   ·rw [hLL]; exact cc 15 _ rfl
   ·rw [hLL]; exact cc 16 _ rfl
   ·rw [hLL]; exact cc 17 _ rfl
   ·rw [hLL]; exact cc 18 _ rfl
   ·rw [hLL]; exact ints_none
   ·rw [hLL]; exact ints_none
   ·rw [hLL]; exact ints_none
  refine ⟨hB9,?_⟩
  simp only [chA,dn,pB,if_true,mV]
  clear KS HC30 HMK HE cS cw14 hz hf HTH hM h41 h42 h01 h02 h03 h11 h12 h13 h21 h22 h23 h31 h32 h33 n01 n02 n03 n04 n12 n13 n14 n23 n24 n34 hrg cc r0 r1 r2 r3 hrv hW9 b9 hB9 h9s RV2 HD0 ho sv sa sb b2 s2 wo
  generalize D 4=pm at *
  generalize D 0=bc at *
  generalize D 1=bt at *
  generalize D 2=ba at *
  generalize D 3=bb at *
  go_wp2
  go_loopg [5] (L+1) (fun gm ix wr=>∃ i:Int,ix=.int .i64 i∧((i=-1∧gm=0∧Ms n w0 w g R ws pm bc bt ba bb 0 0 0 wr) ∨ ∃ k:Nat,i=(k:Int)∧k≤L∧gm=k+1∧Ms n w0 w g R ws pm bc bt ba bb (k+1) (k+1) (k+1) wr))
  case atStart=>exact ⟨(L:Int),by first | rfl | simp,Or.inr ⟨L,rfl,Nat.le_refl _,rfl,MS0.out⟩⟩
  case round =>
   clear MS0
   obtain ⟨i,rfl,hor⟩:=hrel
   rcases hor with ⟨rfl,rfl,hms⟩ | ⟨k,rfl,hk,rfl,hms⟩
   ·have hsp:=hms.sp
    have v0:=hsp.sn.c0
    have v1:=hsp.sn.c1
    have v2:=hsp.sn.c2
    have v3:=hsp.sn.c3
    have v4:=hsp.sn.c4
    have v5:=hsp.sn.c5
    have v6:=hsp.sn.c6
    have v7:=hsp.sn.c7
    have v8:=hsp.sn.c8
    have v11:=hsp.sn.c11
    have v12:=hsp.sn.c12
    have v13:=hsp.sn.c13
    have v14:=hsp.sn.c14
    have v9:=hms.c9
    have v10:=hms.c10
    have v15:=hsp.c15
    have v16:=hsp.c16
    have v17:=hsp.c17
    have v18:=hsp.c18
    rw [hLL] at v14 v15 v16 v17 v18
    have HRV:=hide hms.rv
    have HFIN:Hid (∀ wf,But (·=w.heap.size+1) wr wf→GvM n w0 w g R ws (.returned (.agg #[.slice R.av g.verbs.length R.cv,.slice R.aa g.adverbs.length R.ca,.slice R.ab g.behind.length R.cb,.string g.outer,.string g.power,.string g.opn,.string g.cls,.string g.left,.string g.right,.string R.mi,.string R.qu,.bool g.trains,.bool g.lone,.bool g.square,.slice R.aw L R.cw,.slice (some ⟨bc,0,none⟩) L L,.slice (some ⟨bt,0,none⟩) (L+1) (L+1),.slice (some ⟨ba,0,none⟩) (L+1) (L+1),.slice (some ⟨bb,0,none⟩) (L+1) (L+1)])) wf):=fun wf hf=>by
     have hne:=hms.ne
     have hlt:=hsp.sn.hp2
     have hs:=hf.size
     have ho:=hms.old.size
     obtain ⟨f1,q1⟩:=hms.rt
     obtain ⟨f2,q2⟩:=hms.ra
     obtain ⟨f3,q3⟩:=hms.rb
     have q0:bc < wf.heap.size:=Nat.lt_of_lt_of_le hms.lc hs
     refine ⟨bc,bt,ba,bb,by rw [hLL],hms.old.trans (hf.below ho fun k hk=>by omega),⟨q0,Nat.lt_of_lt_of_le q1.1 hs,Nat.lt_of_lt_of_le q2.1 hs,Nat.lt_of_lt_of_le q3.1 hs⟩,⟨by omega,by omega,by omega,by omega⟩,fun p hp=>⟨hsp.hc.final hf (by omega) hp,hsp.ht.final hf (by omega) hp,hsp.ha.final hf (by omega) hp,hsp.hb.final hf (by omega) hp⟩⟩
    have HRG:Hid (wr.rangeAt pm 0 [.slice R.av g.verbs.length R.cv,.slice R.aa g.adverbs.length R.ca,.slice R.ab g.behind.length R.cb,.string g.outer,.string g.power,.string g.opn,.string g.cls,.string g.left,.string g.right,.string R.mi,.string R.qu,.bool g.trains,.bool g.lone,.bool g.square,.slice R.aw L R.cw,.slice (some ⟨bc,0,none⟩) L L,.slice (some ⟨bt,0,none⟩) (L+1) (L+1),.slice (some ⟨ba,0,none⟩) (L+1) (L+1),.slice (some ⟨bb,0,none⟩) (L+1) (L+1)]):=fun j v hv=>by
     rw [Nat.zero_add]
     have hj:j < 19:=(List.getElem?_eq_some_iff.1 hv).1
     have:j=0 ∨ j=1 ∨ j=2 ∨ j=3 ∨ j=4 ∨ j=5 ∨ j=6 ∨ j=7 ∨ j=8 ∨ j=9 ∨ j=10 ∨ j=11 ∨ j=12 ∨ j=13 ∨ j=14 ∨ j=15 ∨ j=16 ∨ j=17 ∨ j=18:=by omega
     rcases this with rfl | rfl | rfl | rfl | rfl | rfl | rfl | rfl | rfl | rfl | rfl | rfl | rfl | rfl | rfl | rfl | rfl | rfl | rfl <;> cases hv
     ·exact v0
     ·exact v1
     ·exact v2
     ·exact v3
     ·exact v4
     ·exact v5
     ·exact v6
     ·exact v7
     ·exact v8
     ·exact v9
     ·exact v10
     ·exact v11
     ·exact v12
     ·exact v13
     ·exact v14
     ·exact v15
     ·exact v16
     ·exact v17
     ·exact v18
    clear hsp hms v0 v1 v2 v3 v4 v5 v6 v7 v8 v9 v10 v11 v12 v13 v14 v15 v16 v17 v18
    have hrf:=World.rangeAt_setCells_same wr (w.heap.size+1) 0 [.slice R.av g.verbs.length R.cv,.slice R.aa g.adverbs.length R.ca,.slice R.ab g.behind.length R.cb,.string g.outer,.string g.power,.string g.opn,.string g.cls,.string g.left,.string g.right,.string R.mi,.string R.qu,.bool g.trains,.bool g.lone,.bool g.square,.slice R.aw L R.cw,.slice (some ⟨bc,0,none⟩) L L,.slice (some ⟨bt,0,none⟩) (L+1) (L+1),.slice (some ⟨ba,0,none⟩) (L+1) (L+1),.slice (some ⟨bb,0,none⟩) (L+1) (L+1)] HRV.out
    have bF:=setCells_but wr (w.heap.size+1) 0 [.slice R.av g.verbs.length R.cv,.slice R.aa g.adverbs.length R.ca,.slice R.ab g.behind.length R.cb,.string g.outer,.string g.power,.string g.opn,.string g.cls,.string g.left,.string g.right,.string R.mi,.string R.qu,.bool g.trains,.bool g.lone,.bool g.square,.slice R.aw L R.cw,.slice (some ⟨bc,0,none⟩) L L,.slice (some ⟨bt,0,none⟩) (L+1) (L+1),.slice (some ⟨ba,0,none⟩) (L+1) (L+1),.slice (some ⟨bb,0,none⟩) (L+1) (L+1)]
    obtain ⟨WF,hWF⟩:∃ WF,wr.setCells (w.heap.size+1) 0 [.slice R.av g.verbs.length R.cv,.slice R.aa g.adverbs.length R.ca,.slice R.ab g.behind.length R.cb,.string g.outer,.string g.power,.string g.opn,.string g.cls,.string g.left,.string g.right,.string R.mi,.string R.qu,.bool g.trains,.bool g.lone,.bool g.square,.slice R.aw L R.cw,.slice (some ⟨bc,0,none⟩) L L,.slice (some ⟨bt,0,none⟩) (L+1) (L+1),.slice (some ⟨ba,0,none⟩) (L+1) (L+1),.slice (some ⟨bb,0,none⟩) (L+1) (L+1)]=WF:=⟨_,rfl⟩
    rw [hWF] at hrf bF
    have HGO:=hide (HFIN.out WF bF)
    have HWF:=hide hWF
    have HQ:Hid (∀ k v,([.slice R.av g.verbs.length R.cv,.slice R.aa g.adverbs.length R.ca,.slice R.ab g.behind.length R.cb,.string g.outer,.string g.power,.string g.opn,.string g.cls,.string g.left,.string g.right,.string R.mi,.string R.qu,.bool g.trains,.bool g.lone,.bool g.square,.slice R.aw L R.cw,.slice (some ⟨bc,0,none⟩) L L,.slice (some ⟨bt,0,none⟩) (L+1) (L+1),.slice (some ⟨ba,0,none⟩) (L+1) (L+1),.slice (some ⟨bb,0,none⟩) (L+1) (L+1)]:List Value)[k]?=some v→WF.cell? ⟨w.heap.size+1,k,none⟩=some v):=fun k v hv=>by
     have:=hrf k v hv
     rw [Nat.zero_add] at this
     exact this
    clear hrf bF hWF HFIN
    go_upto_region 9 with fail
    have HWG:Hid (wr.setCells (w.heap.size+1) 0 (#[.slice R.av g.verbs.length R.cv,.slice R.aa g.adverbs.length R.ca,.slice R.ab g.behind.length R.cb,.string g.outer,.string g.power,.string g.opn,.string g.cls,.string g.left,.string g.right,.string R.mi,.string R.qu,.bool g.trains,.bool g.lone,.bool g.square,.slice R.aw L R.cw,.slice (some ⟨bc,0,none⟩) L L,.slice (some ⟨bt,0,none⟩) (L+1) (L+1),.slice (some ⟨ba,0,none⟩) (L+1) (L+1),.slice (some ⟨bb,0,none⟩) (L+1) (L+1)]:Array Value).toList=WF):=HWF.out
    go_wp2_with (first | (refine wpList_load_mid rfl 57 (.tmp 4) rfl pm 0 rfl [.slice R.av g.verbs.length R.cv,.slice R.aa g.adverbs.length R.ca,.slice R.ab g.behind.length R.cb,.string g.outer,.string g.power,.string g.opn,.string g.cls,.string g.left,.string g.right,.string R.mi,.string R.qu,.bool g.trains,.bool g.lone,.bool g.square,.slice R.aw L R.cw,.slice (some ⟨bc,0,none⟩) L L,.slice (some ⟨bt,0,none⟩) (L+1) (L+1),.slice (some ⟨ba,0,none⟩) (L+1) (L+1),.slice (some ⟨bb,0,none⟩) (L+1) (L+1)] _ HRG.out Try.underlying57 rfl (by kernel_rfl) ?_) | (refine wpList_store_mid rfl 57 (.tmp 2) (.tmp 45) rfl (w.heap.size+1) 0 #[.slice R.av g.verbs.length R.cv,.slice R.aa g.adverbs.length R.ca,.slice R.ab g.behind.length R.cb,.string g.outer,.string g.power,.string g.opn,.string g.cls,.string g.left,.string g.right,.string R.mi,.string R.qu,.bool g.trains,.bool g.lone,.bool g.square,.slice R.aw L R.cw,.slice (some ⟨bc,0,none⟩) L L,.slice (some ⟨bt,0,none⟩) (L+1) (L+1),.slice (some ⟨ba,0,none⟩) (L+1) (L+1),.slice (some ⟨bb,0,none⟩) (L+1) (L+1)] rfl rfl HRV.out (by kernel_rfl) (by simp [Value.oneCell']) ?_; rw [HWG.out]))
    have HRF:Hid (WF.rangeAt (w.heap.size+1) 0 [.slice R.av g.verbs.length R.cv,.slice R.aa g.adverbs.length R.ca,.slice R.ab g.behind.length R.cb,.string g.outer,.string g.power,.string g.opn,.string g.cls,.string g.left,.string g.right,.string R.mi,.string R.qu,.bool g.trains,.bool g.lone,.bool g.square,.slice R.aw L R.cw,.slice (some ⟨bc,0,none⟩) L L,.slice (some ⟨bt,0,none⟩) (L+1) (L+1),.slice (some ⟨ba,0,none⟩) (L+1) (L+1),.slice (some ⟨bb,0,none⟩) (L+1) (L+1)]):=fun k v hv=>by rw [Nat.zero_add]; exact HQ.out k v hv
    clear HWF HWG HQ HRG HRV
    refine bodyPost_ret (v:=.agg #[.slice R.av g.verbs.length R.cv,.slice R.aa g.adverbs.length R.ca,.slice R.ab g.behind.length R.cb,.string g.outer,.string g.power,.string g.opn,.string g.cls,.string g.left,.string g.right,.string R.mi,.string R.qu,.bool g.trains,.bool g.lone,.bool g.square,.slice R.aw L R.cw,.slice (some ⟨bc,0,none⟩) L L,.slice (some ⟨bt,0,none⟩) (L+1) (L+1),.slice (some ⟨ba,0,none⟩) (L+1) (L+1),.slice (some ⟨bb,0,none⟩) (L+1) (L+1)]) (results_cell_mid rfl _ _ (w.heap.size+1) 0 rfl [.slice R.av g.verbs.length R.cv,.slice R.aa g.adverbs.length R.ca,.slice R.ab g.behind.length R.cb,.string g.outer,.string g.power,.string g.opn,.string g.cls,.string g.left,.string g.right,.string R.mi,.string R.qu,.bool g.trains,.bool g.lone,.bool g.square,.slice R.aw L R.cw,.slice (some ⟨bc,0,none⟩) L L,.slice (some ⟨bt,0,none⟩) (L+1) (L+1),.slice (some ⟨ba,0,none⟩) (L+1) (L+1),.slice (some ⟨bb,0,none⟩) (L+1) (L+1)] _ HRF.out Try.underlying57 rfl (by kernel_rfl)) rfl HGO.out
   ·have HMS6:=hide hms
    have hne:=hms.ne
    have hk1:k < L+1:=by omega
    have hk0:(0:Int)≤(k:Int):=by omega
    have hk2:(k:Int) < (L:Int)+1:=by omega
    clear hms
    have KS6:Hid (∀ W,Below wr.heap.size wr W→W.cell? ⟨pm,16,none⟩=some (.slice (some ⟨bt,0,none⟩) (L+1) (L+1))):=fun W hW=>by
     have:=(HMS6.out.next hW).sp.c16
     rw [hLL] at this
     exact this
    have KT6:Hid (∀ W v,Below wr.heap.size wr W→(W.setCell ⟨bt,k,none⟩ v).cell? ⟨pm,16,none⟩=some (.slice (some ⟨bt,0,none⟩) (L+1) (L+1))):=fun W v hW=>cs_off (by omega) (KS6.out W hW)
    have HD6:Hid (Below wr.heap.size wr wr.drew):=(Below.refl _ _).drew
    have HCC6:=hide (fun W (hW:Below wr.heap.size wr W)=>(tail31 (HMS6.out.next hW).sp k (by rw [hLL]; exact hk) (Nat.le_refl _)).mono fun e w' (h:_∧_)=>(⟨h.1,hW.trans (h.2.mono hW.size)⟩:_∧Below wr.heap.size wr w'))
    have HPP6:=hide (fun W (hW:Below wr.heap.size wr W)=>(HMS6.out.next hW).putt (by rw [hLL]; exact hk))
    obtain ⟨V6,hV6⟩:∃ V,tailV g ws k=V:=⟨_,rfl⟩
    rw [hV6] at HCC6 HPP6
    clear hV6
    have d6:=KS6.out wr (Below.refl _ _)
    go_upto_region 6 with fail
    go_region_held3 (fun W=>W.cell? ⟨pm,16,none⟩=some (.slice (some ⟨bt,0,none⟩) (L+1) (L+1))) (first | with_reducible exact KS6.out _ HD6.out | with_reducible exact KS6.out _ (by with_reducible assumption) | with_reducible exact KT6.out _ _ (by with_reducible assumption)) (first | (go_at_call 31; refine (HCC6.out _ HD6.out).mono ?_; rintro e x6 ⟨rfl,hb6⟩; obtain ⟨⟨u6,y6⟩,z6,hms6⟩:=HPP6.out _ hb6))
    obtain ⟨X6,hX6⟩:∃ X,x6.setCell ⟨bt,k,none⟩ (.int .i64 (V6:Nat))=X:=⟨_,rfl⟩
    rw [hX6] at hms6 ⊢
    have HMS7:=hide hms6
    clear hms6 y6 z6 hb6 hX6 KS6 KT6 HD6 HCC6 HPP6 d6 HMS6
    have KS7:Hid (∀ W,Below X6.heap.size X6 W→W.cell? ⟨pm,17,none⟩=some (.slice (some ⟨ba,0,none⟩) (L+1) (L+1))):=fun W hW=>by
     have:=(HMS7.out.next hW).sp.c17
     rw [hLL] at this
     exact this
    have KT7:Hid (∀ W v,Below X6.heap.size X6 W→(W.setCell ⟨ba,k,none⟩ v).cell? ⟨pm,17,none⟩=some (.slice (some ⟨ba,0,none⟩) (L+1) (L+1))):=fun W v hW=>cs_off (by omega) (KS7.out W hW)
    have HD7:Hid (Below X6.heap.size X6 X6.drew):=(Below.refl _ _).drew
    have HCC7:=hide (fun W (hW:Below X6.heap.size X6 W)=>(whole32 (HMS7.out.next hW).sp false k (by rw [hLL]; exact hk) (Nat.le_refl _) (by omega) (by omega)).mono fun e w' (h:_∧_)=>(⟨h.1,hW.trans (h.2.mono hW.size)⟩:_∧Below X6.heap.size X6 w'))
    have HPP7:=hide (fun W (hW:Below X6.heap.size X6 W)=>(HMS7.out.next hW).puta (by rw [hLL]; exact hk))
    obtain ⟨V7,hV7⟩:∃ V,wholeV g false ws k=V:=⟨_,rfl⟩
    rw [hV7] at HCC7 HPP7
    clear hV7
    have d7:=KS7.out X6 (Below.refl _ _)
    go_upto_region 7 with fail
    go_region_held3 (fun W=>W.cell? ⟨pm,17,none⟩=some (.slice (some ⟨ba,0,none⟩) (L+1) (L+1))) (first | with_reducible exact KS7.out _ HD7.out | with_reducible exact KS7.out _ (by with_reducible assumption) | with_reducible exact KT7.out _ _ (by with_reducible assumption)) (first | (go_at_call 32; refine (HCC7.out _ HD7.out).mono ?_; rintro e x7 ⟨rfl,hb7⟩; obtain ⟨⟨u7,y7⟩,z7,hms7⟩:=HPP7.out _ hb7))
    obtain ⟨X7,hX7⟩:∃ X,x7.setCell ⟨ba,k,none⟩ (.int .i64 (V7:Nat))=X:=⟨_,rfl⟩
    rw [hX7] at hms7 ⊢
    have HMS8:=hide hms7
    clear hms7 y7 z7 hb7 hX7 KS7 KT7 HD7 HCC7 HPP7 d7 HMS7
    have KS8:Hid (∀ W,Below X7.heap.size X7 W→W.cell? ⟨pm,18,none⟩=some (.slice (some ⟨bb,0,none⟩) (L+1) (L+1))):=fun W hW=>by
     have:=(HMS8.out.next hW).sp.c18
     rw [hLL] at this
     exact this
    have KT8:Hid (∀ W v,Below X7.heap.size X7 W→(W.setCell ⟨bb,k,none⟩ v).cell? ⟨pm,18,none⟩=some (.slice (some ⟨bb,0,none⟩) (L+1) (L+1))):=fun W v hW=>cs_off (by omega) (KS8.out W hW)
    have HD8:Hid (Below X7.heap.size X7 X7.drew):=(Below.refl _ _).drew
    have HCC8:=hide (fun W (hW:Below X7.heap.size X7 W)=>(whole32 (HMS8.out.next hW).sp true k (by rw [hLL]; exact hk) (Nat.le_refl _) (by omega) (by omega)).mono fun e w' (h:_∧_)=>(⟨h.1,hW.trans (h.2.mono hW.size)⟩:_∧Below X7.heap.size X7 w'))
    have HPP8:=hide (fun W (hW:Below X7.heap.size X7 W)=>(HMS8.out.next hW).putb (by rw [hLL]; exact hk))
    obtain ⟨V8,hV8⟩:∃ V,wholeV g true ws k=V:=⟨_,rfl⟩
    rw [hV8] at HCC8 HPP8
    clear hV8
    have d8:=KS8.out X7 (Below.refl _ _)
    go_upto_region 8 with fail
    go_region_held3 (fun W=>W.cell? ⟨pm,18,none⟩=some (.slice (some ⟨bb,0,none⟩) (L+1) (L+1))) (first | with_reducible exact KS8.out _ HD8.out | with_reducible exact KS8.out _ (by with_reducible assumption) | with_reducible exact KT8.out _ _ (by with_reducible assumption)) (first | (go_at_call 32; refine (HCC8.out _ HD8.out).mono ?_; rintro e x8 ⟨rfl,hb8⟩; obtain ⟨⟨u8,y8⟩,z8,hms8⟩:=HPP8.out _ hb8))
    obtain ⟨X8,hX8⟩:∃ X,x8.setCell ⟨bb,k,none⟩ (.int .i64 (V8:Nat))=X:=⟨_,rfl⟩
    rw [hX8] at hms8 ⊢
    have HMS9:=hide hms8
    clear hms8 y8 z8 hb8 hX8 KS8 KT8 HD8 HCC8 HPP8 d8 HMS8
    have HNX:Hid (∃ i:Int,Value.int .i64 ((k:Int) - 1)=.int .i64 i∧((i=-1∧k=0∧Ms n w0 w g R ws pm bc bt ba bb 0 0 0 X8) ∨ ∃ k':Nat,i=(k':Int)∧k'≤L∧k=k'+1∧Ms n w0 w g R ws pm bc bt ba bb (k'+1) (k'+1) (k'+1) X8)):=by
     refine ⟨(k:Int) - 1,rfl,?_⟩
     have h9:=HMS9.out
     cases k with
     | zero=>exact Or.inl ⟨by omega,rfl,h9⟩
     | succ k=>exact Or.inr ⟨k,by omega,by omega,rfl,h9⟩
    clear HMS9
    go_wp2
    go_roundg k
    case rel=>exact HNX.out
    case measure=>omega
end Go.Proofs.Ytnaejfoighmfeaa
namespace Go.Proofs.Ytnaejfoighmfeaa.Rn
open Go.ChangeShapes Go.WideShapes Go.ChangeAt Go.RowKit
set_option maxRecDepth 100000
set_option linter.unusedVariables false
set_option linter.unusedSimpArgs false
def strD (m:List Int):Nat→List Int→List Int × Nat × Option Nat
 | 0,_=>([],0,none)
 | f+1,l =>
  if fits (valD m l)=false then ([],0,some 0) else
  if lead blB (l.drop (endD m l))=0 ∨ begD m (l.drop (endD m l+lead blB (l.drop (endD m l))))=false then ([valD m l],endD m l,none) else
  (valD m l :: (strD m f (l.drop (endD m l+lead blB (l.drop (endD m l))))).1,endD m l+lead blB (l.drop (endD m l))+(strD m f (l.drop (endD m l+lead blB (l.drop (endD m l))))).2.1,
   (strD m f (l.drop (endD m l+lead blB (l.drop (endD m l))))).2.2.map (·+(endD m l+lead blB (l.drop (endD m l)))))
theorem begD_at {m l:List Int} (h:begD m l=true):∃ c t,l.drop (offD m l)=c :: t∧dgB c=true:=by
 unfold begD at h
 cases hd:l.drop (offD m l) with
 | nil=>rw [hd] at h; cases h
 | cons c t=>rw [hd] at h; exact ⟨c,t,rfl,h⟩
theorem endD_pos {m l:List Int} (h:begD m l=true):offD m l < endD m l∧endD m l≤l.length:=by
 obtain ⟨c,t,hd,hc⟩:=begD_at h
 have h1:=lead_le dgB (l.drop (offD m l))
 have h2:(l.drop (offD m l)).length=t.length+1:=by rw [hd]; rfl
 rw [List.length_drop] at h1 h2
 unfold endD
 have h3:0 < lead dgB (l.drop (offD m l)):=by rw [hd]; simp [lead,hc]
 omega
theorem strD_fuel (m:List Int) (f:Nat):∀ f' l,begD m l=true→l.length < f→l.length < f'→strD m f' l=strD m f l:=by
 induction f with
 | zero=>intro f' l _ h; omega
 | succ f ih =>
  intro f' l hb hf hf'
  obtain ⟨f',rfl⟩:∃ g,f'=g+1:=⟨f' - 1,by omega⟩
  have he:=endD_pos hb
  rw [strD,strD]
  split
  ·rfl
  ·split
   ·rfl
   ·rename_i h2
    have hn:begD m (l.drop (endD m l+lead blB (l.drop (endD m l))))=true:=by
     cases hh:begD m (l.drop (endD m l+lead blB (l.drop (endD m l)))) with
     | true=>rfl
     | false=>exact absurd (Or.inr hh) h2
    rw [ih f' _ hn (by rw [List.length_drop]; omega) (by rw [List.length_drop]; omega)]
def SD (m l:List Int):List Int × Nat × Option Nat:=strD m (l.length+1) l
def TotD (a j:Nat) (xs:List Int) (S:List Int × Nat × Option Nat):List Int × Nat × Option Nat:=(xs ++ S.1,j - a+S.2.1,S.2.2.map (·+(j - a)))
theorem TotD_0 {a:Nat} {S:List Int × Nat × Option Nat}:TotD a a [] S=S:=by
 obtain ⟨x,y,z⟩:=S
 unfold TotD
 simp
theorem SD_bad {m l:List Int} (h:fits (valD m l)=false):SD m l=([],0,some 0):=by unfold SD; rw [strD,if_pos h]
theorem SD_stop {m l:List Int} (h:fits (valD m l)=true) (hb:lead blB (l.drop (endD m l))=0 ∨ begD m (l.drop (endD m l+lead blB (l.drop (endD m l))))=false):SD m l=([valD m l],endD m l,none):=by
 unfold SD; rw [strD,if_neg (by simp [h]),if_pos hb]
theorem SD_go {m l:List Int} (hn:begD m l=true) (h:fits (valD m l)=true) (hb:¬ lead blB (l.drop (endD m l))=0) (hb2:begD m (l.drop (endD m l+lead blB (l.drop (endD m l))))=true) :
  SD m l=(valD m l :: (SD m (l.drop (endD m l+lead blB (l.drop (endD m l))))).1,endD m l+lead blB (l.drop (endD m l))+(SD m (l.drop (endD m l+lead blB (l.drop (endD m l))))).2.1,(SD m (l.drop (endD m l+lead blB (l.drop (endD m l))))).2.2.map (·+(endD m l+lead blB (l.drop (endD m l))))):=by
 have he:=endD_pos hn
 unfold SD
 rw [strD,if_neg (by simp [h]),if_neg (fun hh=>hh.elim hb (fun h3=>by rw [hb2] at h3; cases h3))]
 rw [strD_fuel m ((l.drop (endD m l+lead blB (l.drop (endD m l)))).length+1) l.length _ hb2 (by omega) (by rw [List.length_drop]; omega)]
theorem TotD_go {m l:List Int} {a j:Nat} {xs:List Int} (haj:a≤j) (hn:begD m l=true) (h:fits (valD m l)=true) (hb:¬ lead blB (l.drop (endD m l))=0) (hb2:begD m (l.drop (endD m l+lead blB (l.drop (endD m l))))=true) :
  TotD a j xs (SD m l)=TotD a (j+(endD m l+lead blB (l.drop (endD m l)))) (xs ++ [valD m l]) (SD m (l.drop (endD m l+lead blB (l.drop (endD m l))))):=by
 rw [SD_go hn h hb hb2]
 generalize SD m (l.drop (endD m l+lead blB (l.drop (endD m l))))=S
 obtain ⟨x,y,z⟩:=S
 unfold TotD
 refine Prod.ext (by simp) (Prod.ext (by simp; omega) ?_)
 cases z with
 | none=>rfl
 | some i=>simp; omega
def litD (l:List Int):Ar:=if l.length=1 then atomA (l[0]?.getD 0) else numsA l
structure Cs (W:World) (s:Nat) (vs:List Value):Prop where
 lt:s < W.heap.size
 c:∀ k v,vs[k]?=some v→W.cell? ⟨s,k,none⟩=some v
 z:∀ k,W.frozen? ⟨s,k,none⟩=false
theorem Cs.next {W W':World} {s B:Nat} {vs:List Value} (h:Cs W s vs) (hb:Below B W W') (hs:s < B):Cs W' s vs :=
 ⟨Nat.lt_of_lt_of_le h.lt hb.size,fun k v hv=>(hb.cell (p:=⟨s,k,none⟩) hs).trans (h.c k v hv),fun k=>(hb.frozen (p:=⟨s,k,none⟩) hs).trans (h.z k)⟩
theorem Cs.but {T:Nat→Prop} {W W':World} {s:Nat} {vs:List Value} (h:Cs W s vs) (hb:But T W W') (hs:¬ T s):Cs W' s vs :=
 ⟨Nat.lt_of_lt_of_le h.lt hb.size,fun k v hv=>(hb.cell (p:=⟨s,k,none⟩) h.lt hs).trans (h.c k v hv),fun k=>(frozen_block (hb.block h.lt hs) k).trans (h.z k)⟩
theorem Cs.new (w:World) (vs:List Value) (t:TypeId):Cs (w.alloc (.cells vs.toArray t)) w.heap.size vs :=
 ⟨by simp,fun k v hv=>cell_new0 w vs.toArray t k v (by simpa using hv),fun k=>frozen_new w _ t k⟩
theorem Cs.there {W:World} {s n:Nat} {vs:List Value} (h:Cs W s vs) (hn:n≤vs.length):W.there s 0 n:=fun j hj=>by
 obtain ⟨v,hv⟩:∃ v,vs[j]?=some v:=⟨_,List.getElem?_eq_getElem (by omega)⟩
 rw [Nat.zero_add]
 exact ⟨by rw [h.c j v hv]; rfl,h.z j⟩
theorem Cs.put {W W':World} {s:Nat} {vs us:List Value} (h:Cs W s vs) (hl:us.length≤vs.length) (he:W.setCells s 0 us=W'):Cs W' s us∧But (·=s) W W':=by
 have hb:=setCells_but W s 0 us
 have hr:=World.rangeAt_setCells_same W s 0 us (h.there hl)
 have hz:=fun k=>setCells_frozen W s 0 us ⟨s,k,none⟩ (h.z k)
 rw [he] at hb hr
 simp only [he] at hz
 exact ⟨⟨Nat.lt_of_lt_of_le h.lt hb.size,fun k v hv=>by have:=hr k v hv; rwa [Nat.zero_add] at this,hz⟩,hb⟩
theorem Cs.set2 {W:World} {s:Nat} {a0 a1 a2 a3 a4 b2 b3:Value} (h:Cs W s [a0,a1,a2,a3,a4]):Cs ((W.setCell ⟨s,2,none⟩ b2).setCell ⟨s,3,none⟩ b3) s [a0,a1,b2,b3,a4]∧But (·=s) W ((W.setCell ⟨s,2,none⟩ b2).setCell ⟨s,3,none⟩ b3):=by
 have hb:But (·=s) W ((W.setCell ⟨s,2,none⟩ b2).setCell ⟨s,3,none⟩ b3):=butS (butS (But.refl _ _) rfl) rfl
 refine ⟨⟨Nat.lt_of_lt_of_le h.lt hb.size,fun k v hv=>?_,fun k=>fs_any (fs_any (h.z k))⟩,hb⟩
 have hk:k < 5:=by
  have:=(List.getElem?_eq_some_iff.1 hv).1
  simpa using this
 rcases (by omega:k=0 ∨ k=1 ∨ k=2 ∨ k=3 ∨ k=4) with rfl | rfl | rfl | rfl | rfl
 ·cases hv; exact cs_off (by omega) (cs_off (by omega) (h.c 0 _ rfl))
 ·cases hv; exact cs_off (by omega) (cs_off (by omega) (h.c 1 _ rfl))
 ·cases hv; exact cs_off (by omega) (cs_same (h.c 2 _ rfl))
 ·cases hv; exact cs_same (cs_off (by omega) (h.c 3 _ rfl))
 ·cases hv; exact cs_off (by omega) (cs_off (by omega) (h.c 4 _ rfl))
end Go.Proofs.Ytnaejfoighmfeaa.Rn
namespace Go.Proofs.Ytnaejfoighmfeaa.Rn
open Go.ChangeShapes Go.WideShapes Go.ChangeAt Go.RowKit
set_option maxRecDepth 100000
set_option linter.unusedVariables false
set_option linter.unusedSimpArgs false
abbrev iv (zs:List Int):List Value:=zs.map (Value.int .i64)
theorem info2:(Try.prog.info? 2).map (fun i=>(i.zero,i.size,i.bytes))=some (some (.int .i64 0),1,8):=by kernel_rfl
theorem row_owned {w:World} {base lo:Nat} {v:Value} {zs:List Int} (h:w.ownsRow base 2 1 v zs.length (iv zs)) (hl:zs.length≤140737488355328) (hlo:lo≤base) :
  ∃ a cap,v=.slice a zs.length cap∧Go.Proofs.Ytnaejfoighmfeaa.Row lo w a zs:=by
 obtain ⟨h1,h2⟩:=h
 rcases h2 with ⟨rfl,h2⟩ | ⟨g,cap,cur,rfl,hb,hg,hn,hm,hs,ht⟩
 ·have e:zs=[]:=List.eq_nil_of_length_eq_zero h2
  subst e
  exact ⟨none,0,rfl,by simp,Or.inl rfl⟩
 ·refine ⟨_,_,rfl,hl,Or.inr ⟨g,0,rfl,Nat.le_trans hlo hb,lt_of_block hg,?_⟩⟩
  intro i hi
  have hown:w.ownsRow base 2 1 (.slice (some ⟨g,0,none⟩) zs.length cap) zs.length (iv zs):=⟨h1,Or.inr ⟨g,cap,cur,rfl,hb,hg,hn,hm,hs,ht⟩⟩
  have:=hown.cellAt i (by omega)
  simp only [Nat.zero_add]
  rw [this,List.getElem?_map,List.getElem?_eq_getElem hi]
  rfl
theorem owns_next {e:TypeId} {size n base:Nat} {w w':World} {v:Value} {xs:List Value} (h:w.ownsRow base e size v n xs) (hb:Below w.heap.size w w'):w'.ownsRow base e size v n xs:=by
 obtain ⟨h1,h2⟩:=h
 refine ⟨h1,?_⟩
 rcases h2 with h2 | ⟨g,cap,cur,rfl,hbs,hg,hn,hm,hs,ht⟩
 ·exact Or.inl h2
 ·exact Or.inr ⟨g,cap,cur,rfl,hbs,(hb.block g (lt_of_block hg)).trans hg,hn,hm,hs,ht⟩
theorem arIn_low {n lo lo':Nat} {w:World} {x:Ar} {v:Value} (h:ArIn n lo w x v) (hl:lo'≤lo):ArIn n lo' w x v:=h.mono hl (Below.refl _ _)
theorem but_keeps {s lo:Nat} {w w':World} (h:But (·=s) w w') (hs:s < lo):Keeps lo w w':=⟨h.size,fun b h1 h2=>h.block h2 (by omega)⟩
def GvS (T:List Int × Nat × Option Nat) (a:Nat) (w:World) (e:Ending) (w':World):Prop:=Below w.heap.size w w'∧match T.2.2 with
 | some j=>e=.returned (.tuple #[.agg #[.int .i64 1,.string ⟨#[]⟩,.slice none 0 0,.slice none 0 0,.int .i64 (a:Int)],.int .i64 ((a+j:Nat):Int),.int .i64 ((a+j:Nat):Int)])
 | none=>∃ z1 m1 z2 m2,e=.returned (.tuple #[.agg #[.int .i64 1,.string ⟨#[]⟩,.slice z1 (litD T.1).shape.length m1,.slice z2 (litD T.1).cells.length m2,.int .i64 (a:Int)],.int .i64 ((a+T.2.1:Nat):Int),.int .i64 (-1)])∧ArIn 1 w.heap.size w' (litD T.1) (.agg #[.slice z1 (litD T.1).shape.length m1,.slice z2 (litD T.1).cells.length m2])
set_option maxHeartbeats 16000000 in
theorem strand47 (s t:ByteArray) (a:Nat) (ha:a≤s.size) (hs:s.size≤8192) (ht:t.size≤1000) (hb0:begD (numsS t) ((numsS s).drop a)=true) (w:World) :
  Calls Try.prog 47 #[.string s,.int .i64 (a:Int),.string t] w fun e w'=>GvS (SD (numsS t) ((numsS s).drop a)) a w e w':=by
 obtain ⟨i0,hi,hz0,hz1,hz2⟩:=info_parts info2
 obtain ⟨T,hTT⟩:∃ T,SD (numsS t) ((numsS s).drop a)=T:=⟨_,rfl⟩
 rw [hTT]
 obtain ⟨W2,hW2⟩:∃ W2,(w.alloc (.cells #[.int .i64 0,.string ⟨#[]⟩,.slice none 0 0,.slice none 0 0,.int .i64 0] 43)).alloc (.cells #[.int .i64 1,.string ⟨#[]⟩,.slice none 0 0,.slice none 0 0,.int .i64 (a:Int)] 43)=W2:=⟨_,rfl⟩
 have hs1:(w.alloc (.cells #[.int .i64 0,.string ⟨#[]⟩,.slice none 0 0,.slice none 0 0,.int .i64 0] 43)).heap.size=w.heap.size+1:=by simp
 have b2:Below w.heap.size w W2:=by rw [←hW2]; exact two_allocs _ _ _
 have s2:W2.heap.size=w.heap.size+2:=by rw [←hW2]; simp
 have R2:Cs W2 w.heap.size [.int .i64 0,.string ⟨#[]⟩,.slice none 0 0,.slice none 0 0,.int .i64 0]:=by
  rw [←hW2]
  exact (Cs.new w [.int .i64 0,.string ⟨#[]⟩,.slice none 0 0,.slice none 0 0,.int .i64 0] 43).next (one_alloc _ _) (by simp)
 have D2:Cs W2 (w.heap.size+1) [.int .i64 1,.string ⟨#[]⟩,.slice none 0 0,.slice none 0 0,.int .i64 (a:Int)]:=by
  have h:=Cs.new (w.alloc (.cells #[.int .i64 0,.string ⟨#[]⟩,.slice none 0 0,.slice none 0 0,.int .i64 0] 43)) [.int .i64 1,.string ⟨#[]⟩,.slice none 0 0,.slice none 0 0,.int .i64 (a:Int)] 43
  rw [hs1] at h
  rw [←hW2]
  exact h
 have HSTATE:Hid (∀ wr,Below (w.heap.size+2) W2 wr→Cs wr w.heap.size [.int .i64 0,.string ⟨#[]⟩,.slice none 0 0,.slice none 0 0,.int .i64 0]∧Cs wr (w.heap.size+1) [.int .i64 1,.string ⟨#[]⟩,.slice none 0 0,.slice none 0 0,.int .i64 (a:Int)]∧Below w.heap.size w wr∧w.heap.size+2≤wr.heap.size):=fun wr h =>
  ⟨R2.next h (by omega),D2.next h (by omega),b2.trans (h.mono (by omega)),by have:=h.size; omega⟩
 have HNX:Hid (Below (w.heap.size+2) W2 W2):=Below.refl _ _
 have HOWN:Hid (W2.ownsRow (w.heap.size+2) 2 1 (.slice none 0 0) 0 (iv [])):=World.ownsRow_nil _ _ _ _
 have HNU:=hide (fun j (hj:j≤s.size) W=>number74 s t j hj (by omega) ht W)
 have HBL:=hide (fun j (hj:j≤s.size) W=>blanks24 s j hj (by omega) W)
 have HBE:=hide (fun j (hj:j≤s.size) W=>begins46 s t j hj (by omega) ht W)
 have HGO:=hide (fun j xs haj h1 h2 h3 h4=>TotD_go (m:=numsS t) (l:=(numsS s).drop j) (a:=a) (j:=j) (xs:=xs) haj h1 h2 h3 h4)
 have HSB:=hide (fun j=>SD_bad (m:=numsS t) (l:=(numsS s).drop j))
 have HSS:=hide (fun j=>SD_stop (m:=numsS t) (l:=(numsS s).drop j))
 have HEP:=hide (fun j=>endD_pos (m:=numsS t) (l:=(numsS s).drop j))
 have HT0:=hide (show TotD a a [] (SD (numsS t) ((numsS s).drop a))=T from TotD_0.trans hTT)
 simp only [List.drop_drop,List.length_drop,numsS_len] at HGO HSB HSS HEP
 have HLB:=hide (fun j=>lead_le blB ((numsS s).drop j))
 simp only [List.length_drop,numsS_len] at HLB
 obtain ⟨BG,hBG⟩:∃ BG:Nat→Bool,∀ j,begD (numsS t) ((numsS s).drop j)=BG j:=⟨_,fun _=>rfl⟩
 obtain ⟨EN,hEN⟩:∃ EN:Nat→Nat,∀ j,endD (numsS t) ((numsS s).drop j)=EN j:=⟨_,fun _=>rfl⟩
 obtain ⟨VA,hVA⟩:∃ VA:Nat→Int,∀ j,valD (numsS t) ((numsS s).drop j)=VA j:=⟨_,fun _=>rfl⟩
 obtain ⟨LD,hLD⟩:∃ LD:Nat→Nat,∀ j,lead blB ((numsS s).drop j)=LD j:=⟨_,fun _=>rfl⟩
 obtain ⟨SF,hSF⟩:∃ SF:Nat→List Int × Nat × Option Nat,∀ j,SD (numsS t) ((numsS s).drop j)=SF j:=⟨_,fun _=>rfl⟩
 have HB0:=hide hb0
 simp only [hBG,hEN,hVA,hLD,hSF] at HNU HBL HBE HGO HSB HSS HEP HT0 HLB HB0
 have HW2:=hide hW2
 have HA0:=hide ha
 have HSZ:=hide hs
 clear hBG hEN hVA hLD hSF hTT hW2 hs1 b2 s2 R2 D2 hb0 ha hs ht
 go_enter Try.func47,Try.ntmps47
 go_wp2
 rw [HW2.out]
 go_loopg [1,10] (s.size+1 - a) (fun g av lv wr=>∃ (j:Nat) (xs:List Int),g+j=s.size+1∧j≤s.size∧a≤j∧xs.length≤j∧av=.int .i64 (j:Int)∧wr.ownsRow (w.heap.size+2) 2 1 lv xs.length (iv xs)∧Below (w.heap.size+2) W2 wr∧BG j=true∧TotD a j xs (SF j)=T)
 case atStart=>exact ⟨a,[],by have:=HA0.out; omega,HA0.out,Nat.le_refl _,by simp,rfl,HOWN.out,HNX.out,HB0.out,HT0.out⟩
 case round =>
  clear HOWN HNX HB0 HT0 HW2
  obtain ⟨j,xs,hg,hjs,haj,hxj,rfl,hown,hnx,hbg,htot⟩:=hrel
  have HN:=hide (HNU.out j hjs)
  have HOW:=hide hown
  have HNX:=hide hnx
  have HBG:=hide hbg
  have HTO:=hide htot
  have hep:=HEP.out j hbg
  clear hown hnx hbg htot HNU
  go_wp2_with fail
  refine (HN.out _).mono ?_
  rintro e w1 ⟨⟨v,rfl,hv⟩,rfl⟩
  have HV:=hide hv
  clear hv HN
  cases hf:fits (VA j) with
  | false =>
   have HTF:=hide (show T=(xs,j - a,some (j - a)) by
    rw [←HTO.out,HSB.out j hf]; simp [TotD])
   obtain ⟨hrs,hwd,hbw,hl2⟩:=HSTATE.out w1 HNX.out
   have c0:=hwd.c 0 _ rfl
   have c1:=hwd.c 1 _ rfl
   have c2:=hwd.c 2 _ rfl
   have c3:=hwd.c 3 _ rfl
   have c4:=hwd.c 4 _ rfl
   obtain ⟨W9,hW9⟩:∃ W9,w1.setCells w.heap.size 0 [.int .i64 1,.string ⟨#[]⟩,.slice none 0 0,.slice none 0 0,.int .i64 (a:Int)]=W9:=⟨_,rfl⟩
   have HW9:Hid (w1.setCells w.heap.size 0 (#[.int .i64 1,.string ⟨#[]⟩,.slice none 0 0,.slice none 0 0,.int .i64 (a:Int)]:Array Value).toList=W9):=hW9
   obtain ⟨C9,B9⟩:=hrs.put (us:=[.int .i64 1,.string ⟨#[]⟩,.slice none 0 0,.slice none 0 0,.int .i64 (a:Int)]) (by simp) hW9
   have HTH:=hide (hrs.there (n:=5) (by simp))
   have HC9:=hide C9
   have HB9:=hide (hbw.trans (B9.below hbw.size fun k hk=>by omega))
   clear HSTATE HGO HSB HSS HEP HLB HBL HBE HNX HOW HBG HTO HV hrs hwd hbw hl2 C9 B9 hW9
   go_wp2_with (first | (refine wpList_store_mid rfl 43 (.tmp 6) (.tmp 27) rfl w.heap.size 0 #[.int .i64 1,.string ⟨#[]⟩,.slice none 0 0,.slice none 0 0,.int .i64 (a:Int)] rfl rfl HTH.out (by kernel_rfl) (by simp [Value.oneCell']) ?_; rw [HW9.out]))
   have r0:=HC9.out.c 0 _ rfl
   have r1:=HC9.out.c 1 _ rfl
   have r2:=HC9.out.c 2 _ rfl
   have r3:=HC9.out.c 3 _ rfl
   have r4:=HC9.out.c 4 _ rfl
   exact bodyPost_ret (v:=.tuple #[.agg #[.int .i64 1,.string ⟨#[]⟩,.slice none 0 0,.slice none 0 0,.int .i64 (a:Int)],.int .i64 (j:Int),.int .i64 (j:Int)]) (by simp [results,Try.results47,go_sem,r0,r1,r2,r3,r4]) rfl (by
    rw [HTF.out]
    refine ⟨HB9.out,?_⟩
    show _=Ending.returned (.tuple #[.agg #[.int .i64 1,.string ⟨#[]⟩,.slice none 0 0,.slice none 0 0,.int .i64 (a:Int)],.int .i64 ((a+(j - a):Nat):Int),.int .i64 ((a+(j - a):Nat):Int)])
    rw [show a+(j - a)=j by omega])
  | true =>
   have hv:=HV.out hf
   subst hv
   have hown2:=HOW.out
   have hlt2:=(HSTATE.out w1 HNX.out).2.2.2
   obtain ⟨st,hst⟩:∃ st,j+EN j=st:=⟨_,rfl⟩
   have hst1:j < st∧st≤s.size:=by omega
   have HBS:=hide (HBL.out st hst1.2)
   have hSS:=HSS.out j hf
   have hGO:=HGO.out j xs haj HBG.out hf
   simp only [←Nat.add_assoc,hst] at hSS hGO
   have HSZ':=HSZ.out
   have hld:=HLB.out st
   generalize hv:VA j=v at *
   clear hf hv HSB HSS HGO HEP HLB HBL hep HV HOW
   go_wp2_with (at_builtin; refine wpList_append_own _ rfl _ _ 109 rfl (w.heap.size+2) 2 i0 (.int .i64 0) 1 8 Try.underlying109 hi hz0 hz1 hz2 rfl (by decide) _ _ _ rfl (hown2.alloc _) ⟨w1.heap.size,0,none⟩ 1 1 [.int .i64 v] rfl rfl ?c1 ?c2 ?c3 ?c4 ?c5 ?_)
   case c1 =>
    intro j u hj
    match j,hj with
    | 0,hj=>simp at hj; subst hj; simp [Addr.add]
   case c2=>intro u hu; simp at hu; subst hu; rfl
   case c3=>unfold maxLen; omega
   case c4=>omega
   case c5=>simp; omega
   intro v' w3 hown' hgrow _
   have hown3:w3.ownsRow (w.heap.size+2) 2 1 v' (xs ++ [v]).length (iv (xs ++ [v])):=by
    rw [List.length_append,show iv (xs ++ [v])=iv xs ++ [.int .i64 v] from List.map_append]; exact hown'
   have HNX3:=hide ((HNX.out.alloc (show w.heap.size+2≤w1.heap.size by omega) _).grown hgrow (by simp; omega) (fun q hq=>(hown2.lt q hq).1))
   have HOW3:=hide hown3
   have HSS:=hide hSS
   have HGO:=hide hGO
   clear hown' hgrow hown2 HNX hSS hGO hown3
   obtain ⟨xs2,hxs2⟩:∃ xs2,xs ++ [v]=xs2:=⟨_,rfl⟩
   have hxl2:xs2.length≤st:=by rw [←hxs2,List.length_append]; simp; omega
   have HXE:=hide hxs2
   rw [hxs2] at HOW3 HGO
   have hlt3:=(HSTATE.out w3 HNX3.out).2.2.2
   go_wp2_with fail
   refine (HBS.out _).mono ?_
   rintro e w4 ⟨rfl,rfl⟩
   clear HBS
   obtain ⟨nx,hnx⟩:∃ nx,st+LD st=nx:=⟨_,rfl⟩
   have hnx2:st≤nx∧nx≤s.size:=by omega
   have hld0:LD st=0 ↔ nx=st:=by omega
   have HLD0:=hide hld0
   simp only [hnx] at HSS HGO ⊢
   clear hld hld0 hnx
   have HBN:=hide (HBE.out nx hnx2.2)
   by_cases heq:nx=st
   ·have HTF:=hide (show T=(xs2,st - a,none) by
     rw [←HTO.out,HSS.out (Or.inl (HLD0.out.2 heq)),← HXE.out]; unfold TotD; refine Prod.ext rfl (Prod.ext ?_ rfl); show j - a+EN j=st - a; omega)
    subst heq
    have hxl3:xs2.length≤8192:=by omega
    clear HSS HGO HBN
    have HRE:=hide (show T=(xs2,nx - a,none) from HTF.out)
    obtain ⟨pa,pc,rfl,hrow⟩:=row_owned (lo:=w.heap.size+2) HOW3.out (by omega) (Nat.le_refl _)
    obtain ⟨hrs,hwd,hbw,hl2⟩:=HSTATE.out w4 HNX3.out
    have HRS:=hide hrs
    have HWD:=hide hwd
    have HBW:=hide hbw
    have HL2:=hide hl2
    clear hrs hwd hbw hl2 HSTATE HNX3 HOW3 HTF
    have HNM:=hide (rnums_any 0 xs2 pa pc w4 hrow (by omega))
    by_cases hx1:xs2.length=1
    ·obtain ⟨z,hz⟩:∃ z,xs2=[z]:=List.length_eq_one_iff.1 hx1
     obtain ⟨g,off,hpa,hgo,hgl,hcz⟩:∃ g off,pa=some ⟨g,off,none⟩∧w.heap.size+2≤g∧g < w4.heap.size∧w4.cell? ⟨g,off,none⟩=some (.int .i64 z):=by
      rcases hrow.2 with h | ⟨g,off,h1,h0,h2,h3⟩
      ·rw [h] at hz; cases hz
      ·exact ⟨g,off,h1,h0,h2,by have:=h3 0 (by omega); rw [hz] at this; exact this⟩
     subst hpa
     have HLT:=hide (show litD xs2=atomA z by unfold litD; rw [if_pos hx1,hz]; rfl)
     have HGL:=hide hgl
     have HGO:=hide hgo
     have HCZ:=hide hcz
     have hnl:(numsA xs2).cells.length=1:=by simp [numsA,Ar.cells,numCs_len,hz]
     have HNL:=hide hnl
     rw [hx1] at HNM
     have HX1:=hide hx1
     have HAT:=hide (fun V=>ratom_any 0 z V)
     clear hrow hz hgl hgo hcz hnl
     rw [hx1]
     clear hx1
     go_wp2_with fail
     refine HNM.out.mono ?_
     rintro e w5 ⟨⟨vv,rfl,hin⟩,hb5⟩
     clear HNM
     obtain ⟨z1,m1,z2,m2,hvv,-⟩:=hin
     have hv2:vv=.agg #[.slice z1 1 m1,.slice z2 1 m2]:=by rw [hvv,HNL.out]; rfl
     subst hv2
     have D5:=HWD.out.next hb5 HWD.out.lt
     obtain ⟨D6,B6⟩:=D5.set2 (b2:=.slice z1 1 m1) (b3:=.slice z2 1 m2)
     have hcz6:=(B6.cell (p:=⟨g,off,none⟩) (Nat.lt_of_lt_of_le HGL.out hb5.size) (by have:=HGO.out; show ¬ g=w.heap.size+1; omega)).trans ((hb5.cell (p:=⟨g,off,none⟩) HGL.out).trans HCZ.out)
     have R5:=HRS.out.next hb5 HRS.out.lt
     have R6:=R5.but B6 (by omega)
     have HBW6:=hide ((HBW.out.trans (hb5.mono HBW.out.size)).trans (B6.below (by have:=HL2.out; have:=hb5.size; omega) fun k hk=>by omega))
     have hs6:w.heap.size+2≤((w5.setCell ⟨w.heap.size+1,2,none⟩ (.slice z1 1 m1)).setCell ⟨w.heap.size+1,3,none⟩ (.slice z2 1 m2)).heap.size:=by have:=B6.size; have:=hb5.size; have:=HL2.out; omega
     have c2:=D5.c 2 _ rfl
     have c3:=D5.c 3 _ rfl
     have f2:=D5.z 2
     have f3:=D5.z 3
     obtain ⟨W6,hW6⟩:∃ W6,(w5.setCell ⟨w.heap.size+1,2,none⟩ (.slice z1 1 m1)).setCell ⟨w.heap.size+1,3,none⟩ (.slice z2 1 m2)=W6:=⟨_,rfl⟩
     rw [hW6] at D6 B6 hcz6 R6 HBW6 hs6
     have HD6:=hide D6
     have HR6:=hide R6
     have HS6:=hide hs6
     clear D5 R5 D6 R6 B6 hb5 HWD HRS HBW hvv hs6
     go_wp2_with fail
     refine (HAT.out _).mono ?_
     rintro e w7 ⟨⟨vv,rfl,hin⟩,hb7⟩
     have HIN:=hide hin
     obtain ⟨y1,n1,y2,n2,hvv,-⟩:=hin
     have hv2:vv=.agg #[.slice y1 0 n1,.slice y2 1 n2]:=hvv
     subst hv2
     clear c2 c3 f2 f3 hW6
     have D7:=HD6.out.next hb7 HD6.out.lt
     obtain ⟨D8,B8⟩:=D7.set2 (b2:=.slice y1 0 n1) (b3:=.slice y2 1 n2)
     have R7:=HR6.out.next hb7 HR6.out.lt
     have R8:=R7.but B8 (by omega)
     have HBW8:=hide ((HBW6.out.trans (hb7.mono HBW6.out.size)).trans (B8.below (by have:=HS6.out; have:=hb7.size; omega) fun k hk=>by omega))
     have e2:=D7.c 2 _ rfl
     have e3:=D7.c 3 _ rfl
     have h2:=D7.z 2
     have h3:=D7.z 3
     obtain ⟨W8,hW8⟩:∃ W8,(w7.setCell ⟨w.heap.size+1,2,none⟩ (.slice y1 0 n1)).setCell ⟨w.heap.size+1,3,none⟩ (.slice y2 1 n2)=W8:=⟨_,rfl⟩
     rw [hW8] at D8 B8 R8 HBW8
     have c0:=D8.c 0 _ rfl
     have c1:=D8.c 1 _ rfl
     have c2':=D8.c 2 _ rfl
     have c3':=D8.c 3 _ rfl
     have c4:=D8.c 4 _ rfl
     obtain ⟨W9,hW9⟩:∃ W9,W8.setCells w.heap.size 0 [.int .i64 1,.string ⟨#[]⟩,.slice y1 0 n1,.slice y2 1 n2,.int .i64 (a:Int)]=W9:=⟨_,rfl⟩
     have HW9:Hid (W8.setCells w.heap.size 0 (#[.int .i64 1,.string ⟨#[]⟩,.slice y1 0 n1,.slice y2 1 n2,.int .i64 (a:Int)]:Array Value).toList=W9):=hW9
     obtain ⟨C9,B9⟩:=R8.put (us:=[.int .i64 1,.string ⟨#[]⟩,.slice y1 0 n1,.slice y2 1 n2,.int .i64 (a:Int)]) (by simp) hW9
     have HTH:=hide (R8.there (n:=5) (by simp))
     have HC9:=hide C9
     have HINN:Hid (ArIn 1 w.heap.size W9 (atomA z) (.agg #[.slice y1 0 n1,.slice y2 1 n2])):=by
      have hs7:=hb7.size
      exact arIn_low ((HIN.out.keeps (but_keeps B8 (by have:=HS6.out; omega))).keeps (but_keeps B9 (by have:=HS6.out; omega))) (by have:=HS6.out; omega)
     have HB9:=hide (HBW8.out.trans (B9.below HBW8.out.size fun k hk=>by omega))
     clear D7 D8 B8 R7 R8 hb7 HD6 HR6 HIN C9 B9 hW9 HBW6 HBW8 hvv
     go_wp2_with (first | (refine wpList_store_mid rfl 43 (.tmp 6) (.tmp 60) rfl w.heap.size 0 #[.int .i64 1,.string ⟨#[]⟩,.slice y1 0 n1,.slice y2 1 n2,.int .i64 (a:Int)] rfl rfl HTH.out (by kernel_rfl) (by simp [Value.oneCell']) ?_; rw [HW9.out]))
     have r0:=HC9.out.c 0 _ rfl
     have r1:=HC9.out.c 1 _ rfl
     have r2:=HC9.out.c 2 _ rfl
     have r3:=HC9.out.c 3 _ rfl
     have r4:=HC9.out.c 4 _ rfl
     exact bodyPost_ret (v:=.tuple #[.agg #[.int .i64 1,.string ⟨#[]⟩,.slice y1 0 n1,.slice y2 1 n2,.int .i64 (a:Int)],.int .i64 (nx:Int),.int .i64 (-1)]) (by simp [results,Try.results47,go_sem,r0,r1,r2,r3,r4]) rfl (by
      rw [HRE.out]
      refine ⟨HB9.out,y1,n1,y2,n2,?_,?_⟩
      ·rw [show litD (xs2,nx - a,(none:Option Nat)).1=atomA z from HLT.out,show ((a+(xs2,nx - a,(none:Option Nat)).2.1:Nat):Int)=(nx:Int) by show ((a+(nx - a):Nat):Int)=_; omega]
       rfl
      ·rw [show litD (xs2,nx - a,(none:Option Nat)).1=atomA z from HLT.out]; exact HINN.out)
    ·have hx1':((xs2.length:Int) == 1)=false:=beq_eq_false_iff_ne.2 (by omega)
     have HLT:=hide (show litD xs2=numsA xs2 by unfold litD; rw [if_neg hx1])
     have hnl:(numsA xs2).cells.length=xs2.length:=by simp [numsA,Ar.cells,numCs_len]
     have HNL:=hide hnl
     have HS6:=hide HL2.out
     have HD6:=hide HWD.out
     have HR6:=hide HRS.out
     have HBW6:=hide HBW.out
     clear hrow hx1 hnl HWD HRS HBW
     obtain ⟨XL,hXL⟩:∃ XL,xs2.length=XL:=⟨_,rfl⟩
     rw [hXL] at HNM HNL hx1'
     simp only [hXL]
     clear hXL
     go_wp2_with fail
     refine HNM.out.mono ?_
     rintro e w7 ⟨⟨vv,rfl,hin⟩,hb7⟩
     clear HNM
     have HIN:=hide hin
     obtain ⟨y1,n1,y2,n2,hvv,-⟩:=hin
     have hv2:vv=.agg #[.slice y1 1 n1,.slice y2 XL n2]:=by rw [hvv,HNL.out]; rfl
     subst hv2
     have D7:=HD6.out.next hb7 HD6.out.lt
     obtain ⟨D8,B8⟩:=D7.set2 (b2:=.slice y1 1 n1) (b3:=.slice y2 XL n2)
     have R7:=HR6.out.next hb7 HR6.out.lt
     have R8:=R7.but B8 (by omega)
     have HBW8:=hide ((HBW6.out.trans (hb7.mono HBW6.out.size)).trans (B8.below (by have:=HS6.out; have:=hb7.size; omega) fun k hk=>by omega))
     have e2:=D7.c 2 _ rfl
     have e3:=D7.c 3 _ rfl
     have h2:=D7.z 2
     have h3:=D7.z 3
     obtain ⟨W8,hW8⟩:∃ W8,(w7.setCell ⟨w.heap.size+1,2,none⟩ (.slice y1 1 n1)).setCell ⟨w.heap.size+1,3,none⟩ (.slice y2 XL n2)=W8:=⟨_,rfl⟩
     rw [hW8] at D8 B8 R8 HBW8
     have c0:=D8.c 0 _ rfl
     have c1:=D8.c 1 _ rfl
     have c2':=D8.c 2 _ rfl
     have c3':=D8.c 3 _ rfl
     have c4:=D8.c 4 _ rfl
     obtain ⟨W9,hW9⟩:∃ W9,W8.setCells w.heap.size 0 [.int .i64 1,.string ⟨#[]⟩,.slice y1 1 n1,.slice y2 XL n2,.int .i64 (a:Int)]=W9:=⟨_,rfl⟩
     have HW9:Hid (W8.setCells w.heap.size 0 (#[.int .i64 1,.string ⟨#[]⟩,.slice y1 1 n1,.slice y2 XL n2,.int .i64 (a:Int)]:Array Value).toList=W9):=hW9
     obtain ⟨C9,B9⟩:=R8.put (us:=[.int .i64 1,.string ⟨#[]⟩,.slice y1 1 n1,.slice y2 XL n2,.int .i64 (a:Int)]) (by simp) hW9
     have HTH:=hide (R8.there (n:=5) (by simp))
     have HC9:=hide C9
     have HINN:Hid (ArIn 1 w.heap.size W9 (numsA xs2) (.agg #[.slice y1 1 n1,.slice y2 XL n2])):=by
      have hs7:=hb7.size
      exact arIn_low ((HIN.out.keeps (but_keeps B8 (by have:=HS6.out; omega))).keeps (but_keeps B9 (by have:=HS6.out; omega))) (by have:=HS6.out; omega)
     have HB9:=hide (HBW8.out.trans (B9.below HBW8.out.size fun k hk=>by omega))
     clear D7 D8 B8 R7 R8 hb7 HD6 HR6 HIN C9 B9 hW9 HBW6 HBW8 hvv
     go_wp2_with (first | (refine wpList_store_mid rfl 43 (.tmp 6) (.tmp 60) rfl w.heap.size 0 #[.int .i64 1,.string ⟨#[]⟩,.slice y1 1 n1,.slice y2 XL n2,.int .i64 (a:Int)] rfl rfl HTH.out (by kernel_rfl) (by simp [Value.oneCell']) ?_; rw [HW9.out]))
     have r0:=HC9.out.c 0 _ rfl
     have r1:=HC9.out.c 1 _ rfl
     have r2:=HC9.out.c 2 _ rfl
     have r3:=HC9.out.c 3 _ rfl
     have r4:=HC9.out.c 4 _ rfl
     exact bodyPost_ret (v:=.tuple #[.agg #[.int .i64 1,.string ⟨#[]⟩,.slice y1 1 n1,.slice y2 XL n2,.int .i64 (a:Int)],.int .i64 (nx:Int),.int .i64 (-1)]) (by simp [results,Try.results47,go_sem,r0,r1,r2,r3,r4]) rfl (by
      rw [HRE.out]
      refine ⟨HB9.out,y1,n1,y2,n2,?_,?_⟩
      ·rw [show litD (xs2,nx - a,(none:Option Nat)).1=numsA xs2 from HLT.out,show ((a+(xs2,nx - a,(none:Option Nat)).2.1:Nat):Int)=(nx:Int) by show ((a+(nx - a):Nat):Int)=_; omega,HNL.out]
       rfl
      ·rw [show litD (xs2,nx - a,(none:Option Nat)).1=numsA xs2 from HLT.out,HNL.out]; exact HINN.out)
   ·have heq':((nx:Int) == (st:Int))=false:=beq_eq_false_iff_ne.2 (by omega)
    cases hbn:BG nx with
    | false =>
     have HTF:=hide (show T=(xs2,st - a,none) by
      rw [←HTO.out,HSS.out (Or.inr hbn),← HXE.out]; unfold TotD; refine Prod.ext rfl (Prod.ext ?_ rfl); show j - a+EN j=st - a; omega)
     rw [hbn] at HBN
     clear HSS HGO
     go_wp2_with fail
     refine (HBN.out _).mono ?_
     rintro e w5 ⟨rfl,rfl⟩
     clear HBN
     have hxl3:xs2.length≤8192:=by omega
     have HRE:=hide (show T=(xs2,st - a,none) from HTF.out)
     obtain ⟨pa,pc,rfl,hrow⟩:=row_owned (lo:=w.heap.size+2) HOW3.out (by omega) (Nat.le_refl _)
     obtain ⟨hrs,hwd,hbw,hl2⟩:=HSTATE.out w5 HNX3.out
     have HRS:=hide hrs
     have HWD:=hide hwd
     have HBW:=hide hbw
     have HL2:=hide hl2
     clear hrs hwd hbw hl2 HSTATE HNX3 HOW3 HTF
     have HNM:=hide (rnums_any 0 xs2 pa pc w5 hrow (by omega))
     by_cases hx1:xs2.length=1
     ·obtain ⟨z,hz⟩:∃ z,xs2=[z]:=List.length_eq_one_iff.1 hx1
      obtain ⟨g,off,hpa,hgo,hgl,hcz⟩:∃ g off,pa=some ⟨g,off,none⟩∧w.heap.size+2≤g∧g < w5.heap.size∧w5.cell? ⟨g,off,none⟩=some (.int .i64 z):=by
       rcases hrow.2 with h | ⟨g,off,h1,h0,h2,h3⟩
       ·rw [h] at hz; cases hz
       ·exact ⟨g,off,h1,h0,h2,by have:=h3 0 (by omega); rw [hz] at this; exact this⟩
      subst hpa
      have HLT:=hide (show litD xs2=atomA z by unfold litD; rw [if_pos hx1,hz]; rfl)
      have HGL:=hide hgl
      have HGO:=hide hgo
      have HCZ:=hide hcz
      have hnl:(numsA xs2).cells.length=1:=by simp [numsA,Ar.cells,numCs_len,hz]
      have HNL:=hide hnl
      rw [hx1] at HNM
      have HX1:=hide hx1
      have HAT:=hide (fun V=>ratom_any 0 z V)
      clear hrow hz hgl hgo hcz hnl
      rw [hx1]
      clear hx1
      go_wp2_with fail
      refine HNM.out.mono ?_
      rintro e w6 ⟨⟨vv,rfl,hin⟩,hb5⟩
      clear HNM
      obtain ⟨z1,m1,z2,m2,hvv,-⟩:=hin
      have hv2:vv=.agg #[.slice z1 1 m1,.slice z2 1 m2]:=by rw [hvv,HNL.out]; rfl
      subst hv2
      have D5:=HWD.out.next hb5 HWD.out.lt
      obtain ⟨D6,B6⟩:=D5.set2 (b2:=.slice z1 1 m1) (b3:=.slice z2 1 m2)
      have hcz6:=(B6.cell (p:=⟨g,off,none⟩) (Nat.lt_of_lt_of_le HGL.out hb5.size) (by have:=HGO.out; show ¬ g=w.heap.size+1; omega)).trans ((hb5.cell (p:=⟨g,off,none⟩) HGL.out).trans HCZ.out)
      have R5:=HRS.out.next hb5 HRS.out.lt
      have R6:=R5.but B6 (by omega)
      have HBW6:=hide ((HBW.out.trans (hb5.mono HBW.out.size)).trans (B6.below (by have:=HL2.out; have:=hb5.size; omega) fun k hk=>by omega))
      have hs6:w.heap.size+2≤((w6.setCell ⟨w.heap.size+1,2,none⟩ (.slice z1 1 m1)).setCell ⟨w.heap.size+1,3,none⟩ (.slice z2 1 m2)).heap.size:=by have:=B6.size; have:=hb5.size; have:=HL2.out; omega
      have c2:=D5.c 2 _ rfl
      have c3:=D5.c 3 _ rfl
      have f2:=D5.z 2
      have f3:=D5.z 3
      obtain ⟨W6,hW6⟩:∃ W6,(w6.setCell ⟨w.heap.size+1,2,none⟩ (.slice z1 1 m1)).setCell ⟨w.heap.size+1,3,none⟩ (.slice z2 1 m2)=W6:=⟨_,rfl⟩
      rw [hW6] at D6 B6 hcz6 R6 HBW6 hs6
      have HD6:=hide D6
      have HR6:=hide R6
      have HS6:=hide hs6
      clear D5 R5 D6 R6 B6 hb5 HWD HRS HBW hvv hs6
      go_wp2_with fail
      refine (HAT.out _).mono ?_
      rintro e w7 ⟨⟨vv,rfl,hin⟩,hb7⟩
      have HIN:=hide hin
      obtain ⟨y1,n1,y2,n2,hvv,-⟩:=hin
      have hv2:vv=.agg #[.slice y1 0 n1,.slice y2 1 n2]:=hvv
      subst hv2
      clear c2 c3 f2 f3 hW6
      have D7:=HD6.out.next hb7 HD6.out.lt
      obtain ⟨D8,B8⟩:=D7.set2 (b2:=.slice y1 0 n1) (b3:=.slice y2 1 n2)
      have R7:=HR6.out.next hb7 HR6.out.lt
      have R8:=R7.but B8 (by omega)
      have HBW8:=hide ((HBW6.out.trans (hb7.mono HBW6.out.size)).trans (B8.below (by have:=HS6.out; have:=hb7.size; omega) fun k hk=>by omega))
      have e2:=D7.c 2 _ rfl
      have e3:=D7.c 3 _ rfl
      have h2:=D7.z 2
      have h3:=D7.z 3
      obtain ⟨W8,hW8⟩:∃ W8,(w7.setCell ⟨w.heap.size+1,2,none⟩ (.slice y1 0 n1)).setCell ⟨w.heap.size+1,3,none⟩ (.slice y2 1 n2)=W8:=⟨_,rfl⟩
      rw [hW8] at D8 B8 R8 HBW8
      have c0:=D8.c 0 _ rfl
      have c1:=D8.c 1 _ rfl
      have c2':=D8.c 2 _ rfl
      have c3':=D8.c 3 _ rfl
      have c4:=D8.c 4 _ rfl
      obtain ⟨W9,hW9⟩:∃ W9,W8.setCells w.heap.size 0 [.int .i64 1,.string ⟨#[]⟩,.slice y1 0 n1,.slice y2 1 n2,.int .i64 (a:Int)]=W9:=⟨_,rfl⟩
      have HW9:Hid (W8.setCells w.heap.size 0 (#[.int .i64 1,.string ⟨#[]⟩,.slice y1 0 n1,.slice y2 1 n2,.int .i64 (a:Int)]:Array Value).toList=W9):=hW9
      obtain ⟨C9,B9⟩:=R8.put (us:=[.int .i64 1,.string ⟨#[]⟩,.slice y1 0 n1,.slice y2 1 n2,.int .i64 (a:Int)]) (by simp) hW9
      have HTH:=hide (R8.there (n:=5) (by simp))
      have HC9:=hide C9
      have HINN:Hid (ArIn 1 w.heap.size W9 (atomA z) (.agg #[.slice y1 0 n1,.slice y2 1 n2])):=by
       have hs7:=hb7.size
       exact arIn_low ((HIN.out.keeps (but_keeps B8 (by have:=HS6.out; omega))).keeps (but_keeps B9 (by have:=HS6.out; omega))) (by have:=HS6.out; omega)
      have HB9:=hide (HBW8.out.trans (B9.below HBW8.out.size fun k hk=>by omega))
      clear D7 D8 B8 R7 R8 hb7 HD6 HR6 HIN C9 B9 hW9 HBW6 HBW8 hvv
      go_wp2_with (first | (refine wpList_store_mid rfl 43 (.tmp 6) (.tmp 60) rfl w.heap.size 0 #[.int .i64 1,.string ⟨#[]⟩,.slice y1 0 n1,.slice y2 1 n2,.int .i64 (a:Int)] rfl rfl HTH.out (by kernel_rfl) (by simp [Value.oneCell']) ?_; rw [HW9.out]))
      have r0:=HC9.out.c 0 _ rfl
      have r1:=HC9.out.c 1 _ rfl
      have r2:=HC9.out.c 2 _ rfl
      have r3:=HC9.out.c 3 _ rfl
      have r4:=HC9.out.c 4 _ rfl
      exact bodyPost_ret (v:=.tuple #[.agg #[.int .i64 1,.string ⟨#[]⟩,.slice y1 0 n1,.slice y2 1 n2,.int .i64 (a:Int)],.int .i64 (st:Int),.int .i64 (-1)]) (by simp [results,Try.results47,go_sem,r0,r1,r2,r3,r4]) rfl (by
       rw [HRE.out]
       refine ⟨HB9.out,y1,n1,y2,n2,?_,?_⟩
       ·rw [show litD (xs2,st - a,(none:Option Nat)).1=atomA z from HLT.out,show ((a+(xs2,st - a,(none:Option Nat)).2.1:Nat):Int)=(st:Int) by show ((a+(st - a):Nat):Int)=_; omega]
        rfl
       ·rw [show litD (xs2,st - a,(none:Option Nat)).1=atomA z from HLT.out]; exact HINN.out)
     ·have hx1':((xs2.length:Int) == 1)=false:=beq_eq_false_iff_ne.2 (by omega)
      have HLT:=hide (show litD xs2=numsA xs2 by unfold litD; rw [if_neg hx1])
      have hnl:(numsA xs2).cells.length=xs2.length:=by simp [numsA,Ar.cells,numCs_len]
      have HNL:=hide hnl
      have HS6:=hide HL2.out
      have HD6:=hide HWD.out
      have HR6:=hide HRS.out
      have HBW6:=hide HBW.out
      clear hrow hx1 hnl HWD HRS HBW
      obtain ⟨XL,hXL⟩:∃ XL,xs2.length=XL:=⟨_,rfl⟩
      rw [hXL] at HNM HNL hx1'
      simp only [hXL]
      clear hXL
      go_wp2_with fail
      refine HNM.out.mono ?_
      rintro e w7 ⟨⟨vv,rfl,hin⟩,hb7⟩
      clear HNM
      have HIN:=hide hin
      obtain ⟨y1,n1,y2,n2,hvv,-⟩:=hin
      have hv2:vv=.agg #[.slice y1 1 n1,.slice y2 XL n2]:=by rw [hvv,HNL.out]; rfl
      subst hv2
      have D7:=HD6.out.next hb7 HD6.out.lt
      obtain ⟨D8,B8⟩:=D7.set2 (b2:=.slice y1 1 n1) (b3:=.slice y2 XL n2)
      have R7:=HR6.out.next hb7 HR6.out.lt
      have R8:=R7.but B8 (by omega)
      have HBW8:=hide ((HBW6.out.trans (hb7.mono HBW6.out.size)).trans (B8.below (by have:=HS6.out; have:=hb7.size; omega) fun k hk=>by omega))
      have e2:=D7.c 2 _ rfl
      have e3:=D7.c 3 _ rfl
      have h2:=D7.z 2
      have h3:=D7.z 3
      obtain ⟨W8,hW8⟩:∃ W8,(w7.setCell ⟨w.heap.size+1,2,none⟩ (.slice y1 1 n1)).setCell ⟨w.heap.size+1,3,none⟩ (.slice y2 XL n2)=W8:=⟨_,rfl⟩
      rw [hW8] at D8 B8 R8 HBW8
      have c0:=D8.c 0 _ rfl
      have c1:=D8.c 1 _ rfl
      have c2':=D8.c 2 _ rfl
      have c3':=D8.c 3 _ rfl
      have c4:=D8.c 4 _ rfl
      obtain ⟨W9,hW9⟩:∃ W9,W8.setCells w.heap.size 0 [.int .i64 1,.string ⟨#[]⟩,.slice y1 1 n1,.slice y2 XL n2,.int .i64 (a:Int)]=W9:=⟨_,rfl⟩
      have HW9:Hid (W8.setCells w.heap.size 0 (#[.int .i64 1,.string ⟨#[]⟩,.slice y1 1 n1,.slice y2 XL n2,.int .i64 (a:Int)]:Array Value).toList=W9):=hW9
      obtain ⟨C9,B9⟩:=R8.put (us:=[.int .i64 1,.string ⟨#[]⟩,.slice y1 1 n1,.slice y2 XL n2,.int .i64 (a:Int)]) (by simp) hW9
      have HTH:=hide (R8.there (n:=5) (by simp))
      have HC9:=hide C9
      have HINN:Hid (ArIn 1 w.heap.size W9 (numsA xs2) (.agg #[.slice y1 1 n1,.slice y2 XL n2])):=by
       have hs7:=hb7.size
       exact arIn_low ((HIN.out.keeps (but_keeps B8 (by have:=HS6.out; omega))).keeps (but_keeps B9 (by have:=HS6.out; omega))) (by have:=HS6.out; omega)
      have HB9:=hide (HBW8.out.trans (B9.below HBW8.out.size fun k hk=>by omega))
      clear D7 D8 B8 R7 R8 hb7 HD6 HR6 HIN C9 B9 hW9 HBW6 HBW8 hvv
      go_wp2_with (first | (refine wpList_store_mid rfl 43 (.tmp 6) (.tmp 60) rfl w.heap.size 0 #[.int .i64 1,.string ⟨#[]⟩,.slice y1 1 n1,.slice y2 XL n2,.int .i64 (a:Int)] rfl rfl HTH.out (by kernel_rfl) (by simp [Value.oneCell']) ?_; rw [HW9.out]))
      have r0:=HC9.out.c 0 _ rfl
      have r1:=HC9.out.c 1 _ rfl
      have r2:=HC9.out.c 2 _ rfl
      have r3:=HC9.out.c 3 _ rfl
      have r4:=HC9.out.c 4 _ rfl
      exact bodyPost_ret (v:=.tuple #[.agg #[.int .i64 1,.string ⟨#[]⟩,.slice y1 1 n1,.slice y2 XL n2,.int .i64 (a:Int)],.int .i64 (st:Int),.int .i64 (-1)]) (by simp [results,Try.results47,go_sem,r0,r1,r2,r3,r4]) rfl (by
       rw [HRE.out]
       refine ⟨HB9.out,y1,n1,y2,n2,?_,?_⟩
       ·rw [show litD (xs2,st - a,(none:Option Nat)).1=numsA xs2 from HLT.out,show ((a+(xs2,st - a,(none:Option Nat)).2.1:Nat):Int)=(st:Int) by show ((a+(st - a):Nat):Int)=_; omega,HNL.out]
        rfl
       ·rw [show litD (xs2,st - a,(none:Option Nat)).1=numsA xs2 from HLT.out,HNL.out]; exact HINN.out)
    | true =>
     have HT2:=hide (show TotD a nx xs2 (SF nx)=T from (HGO.out (fun h=>heq (HLD0.out.1 h)) hbn).symm.trans HTO.out)
     rw [hbn] at HBN
     have HBT:=hide hbn
     clear HSS HGO hbn
     go_wp2_with fail
     refine (HBN.out _).mono ?_
     rintro e w4 ⟨rfl,rfl⟩
     clear HBN
     go_wp2
     go_roundg (s.size+1 - nx)
     case rel=>exact ⟨nx,xs2,by omega,hnx2.2,by omega,by omega,rfl,HOW3.out,HNX3.out,HBT.out,HT2.out⟩
     case measure=>omega
end Go.Proofs.Ytnaejfoighmfeaa.Rn
namespace Go.Proofs.Ytnaejfoighmfeaa.Rn
open Go.ChangeShapes Go.WideShapes Go.ChangeAt Go.RowKit
set_option maxRecDepth 100000
set_option linter.unusedVariables false
set_option linter.unusedSimpArgs false
def fxD (l:List Int) (L:List ByteArray):Option ByteArray:=L.find? fun t=>hasP l (numsS t)
def tkF (k:Int) (a:Nat):Option ByteArray→Value
 | some t=>.tuple #[.agg #[.int .i64 k,.string t,.slice none 0 0,.slice none 0 0,.int .i64 (a:Int)],.bool true]
 | none=>.tuple #[.agg #[.int .i64 0,.string ⟨#[]⟩,.slice none 0 0,.slice none 0 0,.int .i64 0],.bool false]
def WsIn (w:World) (b:Nat) (L:List ByteArray):Prop:=b < w.heap.size∧∀ j t,L[j]?=some t→w.cell? ⟨b,j,none⟩=some (.string t)
theorem WsIn.next {w w':World} {b:Nat} {L:List ByteArray} (h:WsIn w b L) (hb:Below w.heap.size w w'):WsIn w' b L :=
 ⟨Nat.lt_of_lt_of_le h.1 hb.size,fun j t ht=>(hb.cell (p:=⟨b,j,none⟩) h.1).trans (h.2 j t ht)⟩
theorem WsIn.new (w:World) (L:List ByteArray) (ty:TypeId):WsIn (w.alloc (.cells (L.map Value.string).toArray ty)) w.heap.size L :=
 ⟨by simp,fun j t ht=>cell_new0 w _ ty j _ (by simp [ht])⟩
set_option maxHeartbeats 4000000 in
theorem fixed78 (s:ByteArray) (a:Nat) (ha:a≤s.size) (hs:s.size≤8192) (L:List ByteArray) (hL:L.length≤1000) (hT:∀ t ∈ L,t.size≤1000) (b c:Nat) (k:Int) (w:World) (hW:WsIn w b L) :
  Calls Try.prog 78 #[.string s,.int .i64 (a:Int),.slice (some ⟨b,0,none⟩) L.length c,.int .i64 k] w fun e w'=>e=.returned (tkF k a (fxD ((numsS s).drop a) L))∧Below w.heap.size w w':=by
 obtain ⟨W1,hW1⟩:∃ W1,w.alloc (.cells #[.int .i64 0,.string ⟨#[]⟩,.slice none 0 0,.slice none 0 0,.int .i64 0] 43)=W1:=⟨_,rfl⟩
 have b1:Below w.heap.size w W1:=by rw [←hW1]; exact one_alloc _ _
 have R1:Cs W1 w.heap.size [.int .i64 0,.string ⟨#[]⟩,.slice none 0 0,.slice none 0 0,.int .i64 0]:=by rw [←hW1]; exact Cs.new w [.int .i64 0,.string ⟨#[]⟩,.slice none 0 0,.slice none 0 0,.int .i64 0] 43
 have HC:=hide (fun j t (ht:L[j]?=some t)=>(hW.next b1).2 j t ht)
 have HS:=hide (fun t (ht:t ∈ L) W=>starts25 s t a ha (by omega) (hT t ht) W)
 obtain ⟨F,hF⟩:∃ F,fxD ((numsS s).drop a) L=F:=⟨_,rfl⟩
 have HF:=hide hF
 have HW1:=hide hW1
 have HB1:=hide b1
 have HR1:=hide R1
 rw [hF]
 obtain ⟨LN,hLN⟩:∃ LN,L.length=LN:=⟨_,rfl⟩
 have HLN:=hide hLN
 rw [hLN] at hL ⊢
 clear hW hT ha hs hF hW1 b1 R1 hLN
 go_enter Try.func78,Try.ntmps78
 go_wp2
 rw [HW1.out]
 go_loopg [10] (LN+1) (fun g iv wr=>∃ j:Nat,g+j=LN+1∧j≤LN∧iv=.int .i64 (j:Int)∧fxD ((numsS s).drop a) (L.drop j)=F∧wr=W1)
 case atStart=>exact ⟨0,by omega,by omega,rfl,HF.out,rfl⟩
 case round =>
  clear HF HW1
  obtain ⟨j,hj,hjl,rfl,hf,rfl⟩:=hrel
  have HF:=hide hf
  clear hf
  by_cases hlt:j < LN
  ·obtain ⟨t,ht⟩:∃ t,L[j]?=some t:=⟨_,List.getElem?_eq_getElem (by rw [HLN.out]; exact hlt)⟩
   have hc:=HC.out j t ht
   have HST:=hide (HS.out t (List.mem_of_getElem? ht))
   have hdr:L.drop j=t :: L.drop (j+1):=by
    obtain ⟨hl,he⟩:=List.getElem?_eq_some_iff.1 ht
    rw [List.drop_eq_getElem_cons hl,he]
   have HD:=hide hdr
   cases hp:hasP ((numsS s).drop a) (numsS t) with
   | true =>
    have HE:=hide (show F=some t by rw [←HF.out,HD.out]; unfold fxD; rw [List.find?_cons,hp])
    rw [hp] at HST
    obtain ⟨W9,hW9⟩:∃ W9,wr.setCells w.heap.size 0 [.int .i64 k,.string t,.slice none 0 0,.slice none 0 0,.int .i64 (a:Int)]=W9:=⟨_,rfl⟩
    have HW9:Hid (wr.setCells w.heap.size 0 (#[.int .i64 k,.string t,.slice none 0 0,.slice none 0 0,.int .i64 (a:Int)]:Array Value).toList=W9):=hW9
    obtain ⟨C9,B9⟩:=HR1.out.put (us:=[.int .i64 k,.string t,.slice none 0 0,.slice none 0 0,.int .i64 (a:Int)]) (by simp) hW9
    have HTH:=hide (HR1.out.there (n:=5) (by simp))
    have HC9:=hide C9
    have HB9:=hide (HB1.out.trans (B9.below HB1.out.size fun k hk=>by omega))
    clear HC HS HF HR1 HB1 HD hdr hp ht C9 B9 hW9
    go_wp2_with fail
    refine (HST.out _).mono ?_
    rintro e w2 ⟨rfl,rfl⟩
    clear HST
    go_wp2_with (first | (refine wpList_store_mid rfl 43 (.tmp 8) (.tmp 30) rfl w.heap.size 0 #[.int .i64 k,.string t,.slice none 0 0,.slice none 0 0,.int .i64 (a:Int)] rfl rfl HTH.out (by kernel_rfl) (by simp [Value.oneCell']) ?_; rw [HW9.out]))
    have r0:=HC9.out.c 0 _ rfl
    have r1:=HC9.out.c 1 _ rfl
    have r2:=HC9.out.c 2 _ rfl
    have r3:=HC9.out.c 3 _ rfl
    have r4:=HC9.out.c 4 _ rfl
    exact bodyPost_ret (v:=.tuple #[.agg #[.int .i64 k,.string t,.slice none 0 0,.slice none 0 0,.int .i64 (a:Int)],.bool true]) (by simp [results,Try.results78,go_sem,r0,r1,r2,r3,r4]) rfl ⟨by rw [HE.out]; rfl,HB9.out⟩
   | false =>
    have HE:=hide (show fxD ((numsS s).drop a) (L.drop (j+1))=F by rw [←HF.out,HD.out]; unfold fxD; rw [List.find?_cons,hp])
    rw [hp] at HST
    clear HC HS HF HD hdr hp ht
    go_wp2_with fail
    refine (HST.out _).mono ?_
    rintro e w2 ⟨rfl,rfl⟩
    clear HST
    go_wp2
    go_roundg (LN+1 - (j+1))
    case rel=>exact ⟨j+1,by omega,by omega,by go_num,HE.out,rfl⟩
    case measure=>omega
  ·obtain rfl:j=LN:=by omega
   have hnil:L.drop j=[]:=List.drop_eq_nil_of_le (by rw [HLN.out]; exact Nat.le_refl _)
   have HE:=hide (show F=none by rw [←HF.out,hnil]; rfl)
   clear hnil
   obtain ⟨W9,hW9⟩:∃ W9,wr.setCells w.heap.size 0 [.int .i64 0,.string ⟨#[]⟩,.slice none 0 0,.slice none 0 0,.int .i64 0]=W9:=⟨_,rfl⟩
   have HW9:Hid (wr.setCells w.heap.size 0 (#[.int .i64 0,.string ⟨#[]⟩,.slice none 0 0,.slice none 0 0,.int .i64 0]:Array Value).toList=W9):=hW9
   obtain ⟨C9,B9⟩:=HR1.out.put (us:=[.int .i64 0,.string ⟨#[]⟩,.slice none 0 0,.slice none 0 0,.int .i64 0]) (by simp) hW9
   have HTH:=hide (HR1.out.there (n:=5) (by simp))
   have HC9:=hide C9
   have HB9:=hide (HB1.out.trans (B9.below HB1.out.size fun k hk=>by omega))
   clear HC HS HF HR1 HB1 C9 B9 hW9
   go_wp2_with (first | (refine wpList_store_mid rfl 43 (.tmp 8) (.tmp 31) rfl w.heap.size 0 #[.int .i64 0,.string ⟨#[]⟩,.slice none 0 0,.slice none 0 0,.int .i64 0] rfl rfl HTH.out (by kernel_rfl) (by simp [Value.oneCell']) ?_; rw [HW9.out]))
   have r0:=HC9.out.c 0 _ rfl
   have r1:=HC9.out.c 1 _ rfl
   have r2:=HC9.out.c 2 _ rfl
   have r3:=HC9.out.c 3 _ rfl
   have r4:=HC9.out.c 4 _ rfl
   exact bodyPost_ret (v:=.tuple #[.agg #[.int .i64 0,.string ⟨#[]⟩,.slice none 0 0,.slice none 0 0,.int .i64 0],.bool false]) (by simp [results,Try.results78,go_sem,r0,r1,r2,r3,r4]) rfl ⟨by rw [HE.out]; rfl,HB9.out⟩
end Go.Proofs.Ytnaejfoighmfeaa.Rn
namespace Go.Proofs.Ytnaejfoighmfeaa.Rn
open Go.ChangeShapes Go.WideShapes Go.ChangeAt Go.RowKit
set_option maxRecDepth 100000
set_option linter.unusedVariables false
set_option linter.unusedSimpArgs false
def fxL0:List ByteArray:=[⟨#[226,142,149,73,79]⟩,⟨#[226,141,186]⟩,⟨#[226,141,181]⟩]
def fxL1:List ByteArray:=[⟨#[226,134,144]⟩]
def fxL2:List ByteArray:=[⟨#[40]⟩,⟨#[123]⟩,⟨#[91]⟩]
def fxL3:List ByteArray:=[⟨#[41]⟩,⟨#[125]⟩,⟨#[93]⟩]
def fxL4:List ByteArray:=[⟨#[43]⟩,⟨#[45]⟩,⟨#[195,151]⟩,⟨#[124]⟩,⟨#[126]⟩,⟨#[226,141,179]⟩,⟨#[226,141,180]⟩,⟨#[226,137,162]⟩,⟨#[44]⟩,⟨#[226,138,150]⟩,⟨#[226,140,189]⟩,⟨#[226,141,137]⟩,⟨#[226,141,139]⟩,⟨#[226,141,146]⟩,⟨#[226,136,170]⟩,⟨#[226,138,130]⟩,⟨#[226,138,131]⟩,⟨#[195,183]⟩,⟨#[226,140,138]⟩,⟨#[226,140,136]⟩,⟨#[61]⟩,⟨#[226,137,160]⟩,⟨#[60]⟩,⟨#[62]⟩,⟨#[226,137,164]⟩,⟨#[226,137,165]⟩,⟨#[226,134,145]⟩,⟨#[226,134,147]⟩,⟨#[226,141,170]⟩,⟨#[226,136,138]⟩,⟨#[226,140,191]⟩,⟨#[47]⟩,⟨#[92]⟩,⟨#[226,141,128]⟩,⟨#[226,140,183]⟩,⟨#[226,141,168]⟩,⟨#[226,141,163]⟩,⟨#[226,139,132]⟩,⟨#[226,136,152,46]⟩]
def fixD (l:List Int):Option (Int × ByteArray):=match fxD l fxL0 with
 | some t=>some (3,t)
 | none=>match fxD l fxL1 with
  | some t=>some (7,t)
  | none=>match fxD l fxL2 with
   | some t=>some (5,t)
   | none=>match fxD l fxL3 with
    | some t=>some (6,t)
    | none=>match fxD l fxL4 with
     | some t=>some (4,t)
     | none=>none
def tkG (a:Nat):Option (Int × ByteArray)→Value
 | some (k,t)=>tkF k a (some t)
 | none=>tkF 0 a none
set_option maxHeartbeats 4000000 in
theorem verbs79 (w:World):Calls Try.prog 79 #[] w fun e w'=>e=.returned (.slice (some ⟨w.heap.size,0,none⟩) 39 39)∧w'=w.alloc (.cells #[.string ⟨#[43]⟩,.string ⟨#[45]⟩,.string ⟨#[195,151]⟩,.string ⟨#[124]⟩,.string ⟨#[126]⟩,.string ⟨#[226,141,179]⟩,.string ⟨#[226,141,180]⟩,.string ⟨#[226,137,162]⟩,.string ⟨#[44]⟩,.string ⟨#[226,138,150]⟩,.string ⟨#[226,140,189]⟩,.string ⟨#[226,141,137]⟩,.string ⟨#[226,141,139]⟩,.string ⟨#[226,141,146]⟩,.string ⟨#[226,136,170]⟩,.string ⟨#[226,138,130]⟩,.string ⟨#[226,138,131]⟩,.string ⟨#[195,183]⟩,.string ⟨#[226,140,138]⟩,.string ⟨#[226,140,136]⟩,.string ⟨#[61]⟩,.string ⟨#[226,137,160]⟩,.string ⟨#[60]⟩,.string ⟨#[62]⟩,.string ⟨#[226,137,164]⟩,.string ⟨#[226,137,165]⟩,.string ⟨#[226,134,145]⟩,.string ⟨#[226,134,147]⟩,.string ⟨#[226,141,170]⟩,.string ⟨#[226,136,138]⟩,.string ⟨#[226,140,191]⟩,.string ⟨#[47]⟩,.string ⟨#[92]⟩,.string ⟨#[226,141,128]⟩,.string ⟨#[226,140,183]⟩,.string ⟨#[226,141,168]⟩,.string ⟨#[226,141,163]⟩,.string ⟨#[226,139,132]⟩,.string ⟨#[226,136,152,46]⟩] 9):=by
 go_enter Try.func79,Try.ntmps79
 go_wp2
 go_ret
 exact ⟨rfl,rfl⟩
set_option maxHeartbeats 8000000 in
theorem fixed51 (s:ByteArray) (a:Nat) (ha:a≤s.size) (hs:s.size≤8192) (w:World) :
  Calls Try.prog 51 #[.string s,.int .i64 (a:Int)] w fun e w'=>e=.returned (tkG a (fixD ((numsS s).drop a)))∧Below w.heap.size w w':=by
 have HF:=hide (fun L hL hT b c k W hW=>fixed78 s a ha hs L hL hT b c k W hW)
 obtain ⟨W0,hW0⟩:∃ W0,w.alloc (.cells #[.int .i64 0,.string ⟨#[]⟩,.slice none 0 0,.slice none 0 0,.int .i64 0] 43)=W0:=⟨_,rfl⟩
 have b0:Below w.heap.size w W0:=by rw [←hW0]; exact one_alloc _ _
 have R0:Cs W0 w.heap.size [.int .i64 0,.string ⟨#[]⟩,.slice none 0 0,.slice none 0 0,.int .i64 0]:=by rw [←hW0]; exact Cs.new w [.int .i64 0,.string ⟨#[]⟩,.slice none 0 0,.slice none 0 0,.int .i64 0] 43
 have s0:W0.heap.size=w.heap.size+1:=by rw [←hW0]; simp
 obtain ⟨RES,hRES⟩:∃ RES,fixD ((numsS s).drop a)=RES:=⟨_,rfl⟩
 have HRES:=hide hRES
 rw [hRES]
 clear hRES
 have HW0:=hide hW0
 have HB0:=hide b0
 have HR0:=hide R0
 have HS0:=hide s0
 clear hW0 b0 R0 s0 ha hs
 go_enter Try.func51,Try.ntmps51
 go_upto_region 1 with fail
 rw [HW0.out]
 obtain ⟨V,hV⟩:∃ V,W0.alloc (.cells #[.string ⟨#[226,142,149,73,79]⟩,.string ⟨#[226,141,186]⟩,.string ⟨#[226,141,181]⟩] 9)=V:=⟨_,rfl⟩
 have bv:Below W0.heap.size W0 V:=by rw [←hV]; exact one_alloc _ _
 have HC:=hide (HF.out fxL0 (by decide) (by decide) W0.heap.size 3 3 V (by rw [←hV]; exact WsIn.new W0 fxL0 9))
 have HVI:=hide hV
 have HBV:=hide bv
 clear bv
 go_wp2_with fail
 clear hV
 refine HC.out.mono ?_
 rintro e U ⟨rfl,hbu⟩
 have HBU:=hide (HBV.out.trans (hbu.mono HBV.out.size))
 clear hbu HC HVI HBV
 cases hf:fxD ((numsS s).drop a) fxL0 with
 | some t =>
  simp only [tkF]
  have HE:=hide (show RES=some (3,t) by rw [←HRES.out]; unfold fixD; simp [hf])
  have bq:=one_alloc U (.cells #[.int .i64 3,.string t,.slice none 0 0,.slice none 0 0,.int .i64 (a:Int)] 43)
  have D:=Cs.new U [.int .i64 3,.string t,.slice none 0 0,.slice none 0 0,.int .i64 (a:Int)] 43
  obtain ⟨W1,hX⟩:∃ W1,U.alloc (.cells #[.int .i64 3,.string t,.slice none 0 0,.slice none 0 0,.int .i64 (a:Int)] 43)=W1:=⟨_,rfl⟩
  rw [hX] at bq
  have D':Cs W1 U.heap.size [.int .i64 3,.string t,.slice none 0 0,.slice none 0 0,.int .i64 (a:Int)]:=by rw [←hX]; exact D
  have hsu:=HBU.out.size
  have RX:=(HR0.out.next (HBU.out.trans (bq.mono hsu)) HR0.out.lt)
  have c0:=D'.c 0 _ rfl
  have c1:=D'.c 1 _ rfl
  have c2:=D'.c 2 _ rfl
  have c3:=D'.c 3 _ rfl
  have c4:=D'.c 4 _ rfl
  obtain ⟨W9,hW9⟩:∃ W9,W1.setCells w.heap.size 0 [.int .i64 3,.string t,.slice none 0 0,.slice none 0 0,.int .i64 (a:Int)]=W9:=⟨_,rfl⟩
  have HW9:Hid (W1.setCells w.heap.size 0 (#[.int .i64 3,.string t,.slice none 0 0,.slice none 0 0,.int .i64 (a:Int)]:Array Value).toList=W9):=hW9
  obtain ⟨C9,B9⟩:=RX.put (us:=[.int .i64 3,.string t,.slice none 0 0,.slice none 0 0,.int .i64 (a:Int)]) (by simp) hW9
  have HTH:=hide (RX.there (n:=5) (by simp))
  have HC9:=hide C9
  have hbx:=HB0.out.trans ((HBU.out.trans (bq.mono hsu)).mono HB0.out.size)
  have HB9:=hide (hbx.trans (B9.below hbx.size fun k hk=>by omega))
  clear HF D D' RX C9 B9 hW9 bq hbx hsu HR0 HB0 HBU HS0 hf
  go_wp2_with (first | (refine wpList_store_mid rfl 43 (.tmp 4) (.tmp 22) rfl w.heap.size 0 #[.int .i64 3,.string t,.slice none 0 0,.slice none 0 0,.int .i64 (a:Int)] rfl rfl HTH.out (by kernel_rfl) (by simp [Value.oneCell']) ?_; rw [HW9.out]))
  have r0:=HC9.out.c 0 _ rfl
  have r1:=HC9.out.c 1 _ rfl
  have r2:=HC9.out.c 2 _ rfl
  have r3:=HC9.out.c 3 _ rfl
  have r4:=HC9.out.c 4 _ rfl
  exact bodyPost_ret (v:=.tuple #[.agg #[.int .i64 3,.string t,.slice none 0 0,.slice none 0 0,.int .i64 (a:Int)],.bool true]) (by simp [results,Try.results51,go_sem,r0,r1,r2,r3,r4]) rfl ⟨by rw [HE.out]; rfl,HB9.out⟩
 | none =>
  simp only [tkF]
  obtain ⟨W1,hX⟩:∃ W1,U.alloc (.cells #[.int .i64 0,.string ⟨#[]⟩,.slice none 0 0,.slice none 0 0,.int .i64 0] 43)=W1:=⟨_,rfl⟩
  have bq:Below U.heap.size U W1:=by rw [←hX]; exact one_alloc _ _
  have hsu:=HBU.out.size
  have HR1:=hide (HR0.out.next (HBU.out.trans (bq.mono hsu)) HR0.out.lt)
  have HB1:=hide (HB0.out.trans ((HBU.out.trans (bq.mono hsu)).mono HB0.out.size))
  have HX:=hide hX
  have HN0:=hide hf
  clear bq hsu HR0 HB0 HBU HS0 hf hX
  go_upto_region 4 with fail
  rw [HX.out]
  have HS1:Hid True:=trivial
  obtain ⟨V,hV⟩:∃ V,W1.alloc (.cells #[.string ⟨#[226,134,144]⟩] 9)=V:=⟨_,rfl⟩
  have bv:Below W1.heap.size W1 V:=by rw [←hV]; exact one_alloc _ _
  have HC:=hide (HF.out fxL1 (by decide) (by decide) W1.heap.size 1 7 V (by rw [←hV]; exact WsIn.new W1 fxL1 9))
  have HVI:=hide hV
  have HBV:=hide bv
  clear bv
  go_wp2_with fail
  clear hV
  refine HC.out.mono ?_
  rintro e U ⟨rfl,hbu⟩
  have HBU:=hide (HBV.out.trans (hbu.mono HBV.out.size))
  clear hbu HC HVI HBV
  cases hf:fxD ((numsS s).drop a) fxL1 with
  | some t =>
   simp only [tkF]
   have HE:=hide (show RES=some (7,t) by rw [←HRES.out]; unfold fixD; simp [hf,HN0.out])
   have bq:=one_alloc U (.cells #[.int .i64 7,.string t,.slice none 0 0,.slice none 0 0,.int .i64 (a:Int)] 43)
   have D:=Cs.new U [.int .i64 7,.string t,.slice none 0 0,.slice none 0 0,.int .i64 (a:Int)] 43
   obtain ⟨W2,hX⟩:∃ W2,U.alloc (.cells #[.int .i64 7,.string t,.slice none 0 0,.slice none 0 0,.int .i64 (a:Int)] 43)=W2:=⟨_,rfl⟩
   rw [hX] at bq
   have D':Cs W2 U.heap.size [.int .i64 7,.string t,.slice none 0 0,.slice none 0 0,.int .i64 (a:Int)]:=by rw [←hX]; exact D
   have hsu:=HBU.out.size
   have RX:=(HR1.out.next (HBU.out.trans (bq.mono hsu)) HR1.out.lt)
   have c0:=D'.c 0 _ rfl
   have c1:=D'.c 1 _ rfl
   have c2:=D'.c 2 _ rfl
   have c3:=D'.c 3 _ rfl
   have c4:=D'.c 4 _ rfl
   obtain ⟨W9,hW9⟩:∃ W9,W2.setCells w.heap.size 0 [.int .i64 7,.string t,.slice none 0 0,.slice none 0 0,.int .i64 (a:Int)]=W9:=⟨_,rfl⟩
   have HW9:Hid (W2.setCells w.heap.size 0 (#[.int .i64 7,.string t,.slice none 0 0,.slice none 0 0,.int .i64 (a:Int)]:Array Value).toList=W9):=hW9
   obtain ⟨C9,B9⟩:=RX.put (us:=[.int .i64 7,.string t,.slice none 0 0,.slice none 0 0,.int .i64 (a:Int)]) (by simp) hW9
   have HTH:=hide (RX.there (n:=5) (by simp))
   have HC9:=hide C9
   have hbx:=HB1.out.trans ((HBU.out.trans (bq.mono hsu)).mono HB1.out.size)
   have HB9:=hide (hbx.trans (B9.below hbx.size fun k hk=>by omega))
   clear HF D D' RX C9 B9 hW9 bq hbx hsu HR1 HB1 HBU HS1 hf
   go_wp2_with (first | (refine wpList_store_mid rfl 43 (.tmp 4) (.tmp 31) rfl w.heap.size 0 #[.int .i64 7,.string t,.slice none 0 0,.slice none 0 0,.int .i64 (a:Int)] rfl rfl HTH.out (by kernel_rfl) (by simp [Value.oneCell']) ?_; rw [HW9.out]))
   have r0:=HC9.out.c 0 _ rfl
   have r1:=HC9.out.c 1 _ rfl
   have r2:=HC9.out.c 2 _ rfl
   have r3:=HC9.out.c 3 _ rfl
   have r4:=HC9.out.c 4 _ rfl
   exact bodyPost_ret (v:=.tuple #[.agg #[.int .i64 7,.string t,.slice none 0 0,.slice none 0 0,.int .i64 (a:Int)],.bool true]) (by simp [results,Try.results51,go_sem,r0,r1,r2,r3,r4]) rfl ⟨by rw [HE.out]; rfl,HB9.out⟩
  | none =>
   simp only [tkF]
   obtain ⟨W2,hX⟩:∃ W2,U.alloc (.cells #[.int .i64 0,.string ⟨#[]⟩,.slice none 0 0,.slice none 0 0,.int .i64 0] 43)=W2:=⟨_,rfl⟩
   have bq:Below U.heap.size U W2:=by rw [←hX]; exact one_alloc _ _
   have hsu:=HBU.out.size
   have HR2:=hide (HR1.out.next (HBU.out.trans (bq.mono hsu)) HR1.out.lt)
   have HB2:=hide (HB1.out.trans ((HBU.out.trans (bq.mono hsu)).mono HB1.out.size))
   have HX:=hide hX
   have HN1:=hide hf
   clear bq hsu HR1 HB1 HBU HS1 hf hX
   go_upto_region 7 with fail
   rw [HX.out]
   have HS2:Hid True:=trivial
   obtain ⟨V,hV⟩:∃ V,W2.alloc (.cells #[.string ⟨#[40]⟩,.string ⟨#[123]⟩,.string ⟨#[91]⟩] 9)=V:=⟨_,rfl⟩
   have bv:Below W2.heap.size W2 V:=by rw [←hV]; exact one_alloc _ _
   have HC:=hide (HF.out fxL2 (by decide) (by decide) W2.heap.size 3 5 V (by rw [←hV]; exact WsIn.new W2 fxL2 9))
   have HVI:=hide hV
   have HBV:=hide bv
   clear bv
   go_wp2_with fail
   clear hV
   refine HC.out.mono ?_
   rintro e U ⟨rfl,hbu⟩
   have HBU:=hide (HBV.out.trans (hbu.mono HBV.out.size))
   clear hbu HC HVI HBV
   cases hf:fxD ((numsS s).drop a) fxL2 with
   | some t =>
    simp only [tkF]
    have HE:=hide (show RES=some (5,t) by rw [←HRES.out]; unfold fixD; simp [hf,HN0.out,HN1.out])
    have bq:=one_alloc U (.cells #[.int .i64 5,.string t,.slice none 0 0,.slice none 0 0,.int .i64 (a:Int)] 43)
    have D:=Cs.new U [.int .i64 5,.string t,.slice none 0 0,.slice none 0 0,.int .i64 (a:Int)] 43
    obtain ⟨W3,hX⟩:∃ W3,U.alloc (.cells #[.int .i64 5,.string t,.slice none 0 0,.slice none 0 0,.int .i64 (a:Int)] 43)=W3:=⟨_,rfl⟩
    rw [hX] at bq
    have D':Cs W3 U.heap.size [.int .i64 5,.string t,.slice none 0 0,.slice none 0 0,.int .i64 (a:Int)]:=by rw [←hX]; exact D
    have hsu:=HBU.out.size
    have RX:=(HR2.out.next (HBU.out.trans (bq.mono hsu)) HR2.out.lt)
    have c0:=D'.c 0 _ rfl
    have c1:=D'.c 1 _ rfl
    have c2:=D'.c 2 _ rfl
    have c3:=D'.c 3 _ rfl
    have c4:=D'.c 4 _ rfl
    obtain ⟨W9,hW9⟩:∃ W9,W3.setCells w.heap.size 0 [.int .i64 5,.string t,.slice none 0 0,.slice none 0 0,.int .i64 (a:Int)]=W9:=⟨_,rfl⟩
    have HW9:Hid (W3.setCells w.heap.size 0 (#[.int .i64 5,.string t,.slice none 0 0,.slice none 0 0,.int .i64 (a:Int)]:Array Value).toList=W9):=hW9
    obtain ⟨C9,B9⟩:=RX.put (us:=[.int .i64 5,.string t,.slice none 0 0,.slice none 0 0,.int .i64 (a:Int)]) (by simp) hW9
    have HTH:=hide (RX.there (n:=5) (by simp))
    have HC9:=hide C9
    have hbx:=HB2.out.trans ((HBU.out.trans (bq.mono hsu)).mono HB2.out.size)
    have HB9:=hide (hbx.trans (B9.below hbx.size fun k hk=>by omega))
    clear HF D D' RX C9 B9 hW9 bq hbx hsu HR2 HB2 HBU HS2 hf
    go_wp2_with (first | (refine wpList_store_mid rfl 43 (.tmp 4) (.tmp 40) rfl w.heap.size 0 #[.int .i64 5,.string t,.slice none 0 0,.slice none 0 0,.int .i64 (a:Int)] rfl rfl HTH.out (by kernel_rfl) (by simp [Value.oneCell']) ?_; rw [HW9.out]))
    have r0:=HC9.out.c 0 _ rfl
    have r1:=HC9.out.c 1 _ rfl
    have r2:=HC9.out.c 2 _ rfl
    have r3:=HC9.out.c 3 _ rfl
    have r4:=HC9.out.c 4 _ rfl
    exact bodyPost_ret (v:=.tuple #[.agg #[.int .i64 5,.string t,.slice none 0 0,.slice none 0 0,.int .i64 (a:Int)],.bool true]) (by simp [results,Try.results51,go_sem,r0,r1,r2,r3,r4]) rfl ⟨by rw [HE.out]; rfl,HB9.out⟩
   | none =>
    simp only [tkF]
    obtain ⟨W3,hX⟩:∃ W3,U.alloc (.cells #[.int .i64 0,.string ⟨#[]⟩,.slice none 0 0,.slice none 0 0,.int .i64 0] 43)=W3:=⟨_,rfl⟩
    have bq:Below U.heap.size U W3:=by rw [←hX]; exact one_alloc _ _
    have hsu:=HBU.out.size
    have HR3:=hide (HR2.out.next (HBU.out.trans (bq.mono hsu)) HR2.out.lt)
    have HB3:=hide (HB2.out.trans ((HBU.out.trans (bq.mono hsu)).mono HB2.out.size))
    have HX:=hide hX
    have HN2:=hide hf
    clear bq hsu HR2 HB2 HBU HS2 hf hX
    go_upto_region 10 with fail
    rw [HX.out]
    have HS3:Hid True:=trivial
    obtain ⟨V,hV⟩:∃ V,W3.alloc (.cells #[.string ⟨#[41]⟩,.string ⟨#[125]⟩,.string ⟨#[93]⟩] 9)=V:=⟨_,rfl⟩
    have bv:Below W3.heap.size W3 V:=by rw [←hV]; exact one_alloc _ _
    have HC:=hide (HF.out fxL3 (by decide) (by decide) W3.heap.size 3 6 V (by rw [←hV]; exact WsIn.new W3 fxL3 9))
    have HVI:=hide hV
    have HBV:=hide bv
    clear bv
    go_wp2_with fail
    clear hV
    refine HC.out.mono ?_
    rintro e U ⟨rfl,hbu⟩
    have HBU:=hide (HBV.out.trans (hbu.mono HBV.out.size))
    clear hbu HC HVI HBV
    cases hf:fxD ((numsS s).drop a) fxL3 with
    | some t =>
     simp only [tkF]
     have HE:=hide (show RES=some (6,t) by rw [←HRES.out]; unfold fixD; simp [hf,HN0.out,HN1.out,HN2.out])
     have bq:=one_alloc U (.cells #[.int .i64 6,.string t,.slice none 0 0,.slice none 0 0,.int .i64 (a:Int)] 43)
     have D:=Cs.new U [.int .i64 6,.string t,.slice none 0 0,.slice none 0 0,.int .i64 (a:Int)] 43
     obtain ⟨W4,hX⟩:∃ W4,U.alloc (.cells #[.int .i64 6,.string t,.slice none 0 0,.slice none 0 0,.int .i64 (a:Int)] 43)=W4:=⟨_,rfl⟩
     rw [hX] at bq
     have D':Cs W4 U.heap.size [.int .i64 6,.string t,.slice none 0 0,.slice none 0 0,.int .i64 (a:Int)]:=by rw [←hX]; exact D
     have hsu:=HBU.out.size
     have RX:=(HR3.out.next (HBU.out.trans (bq.mono hsu)) HR3.out.lt)
     have c0:=D'.c 0 _ rfl
     have c1:=D'.c 1 _ rfl
     have c2:=D'.c 2 _ rfl
     have c3:=D'.c 3 _ rfl
     have c4:=D'.c 4 _ rfl
     obtain ⟨W9,hW9⟩:∃ W9,W4.setCells w.heap.size 0 [.int .i64 6,.string t,.slice none 0 0,.slice none 0 0,.int .i64 (a:Int)]=W9:=⟨_,rfl⟩
     have HW9:Hid (W4.setCells w.heap.size 0 (#[.int .i64 6,.string t,.slice none 0 0,.slice none 0 0,.int .i64 (a:Int)]:Array Value).toList=W9):=hW9
     obtain ⟨C9,B9⟩:=RX.put (us:=[.int .i64 6,.string t,.slice none 0 0,.slice none 0 0,.int .i64 (a:Int)]) (by simp) hW9
     have HTH:=hide (RX.there (n:=5) (by simp))
     have HC9:=hide C9
     have hbx:=HB3.out.trans ((HBU.out.trans (bq.mono hsu)).mono HB3.out.size)
     have HB9:=hide (hbx.trans (B9.below hbx.size fun k hk=>by omega))
     clear HF D D' RX C9 B9 hW9 bq hbx hsu HR3 HB3 HBU HS3 hf
     go_wp2_with (first | (refine wpList_store_mid rfl 43 (.tmp 4) (.tmp 49) rfl w.heap.size 0 #[.int .i64 6,.string t,.slice none 0 0,.slice none 0 0,.int .i64 (a:Int)] rfl rfl HTH.out (by kernel_rfl) (by simp [Value.oneCell']) ?_; rw [HW9.out]))
     have r0:=HC9.out.c 0 _ rfl
     have r1:=HC9.out.c 1 _ rfl
     have r2:=HC9.out.c 2 _ rfl
     have r3:=HC9.out.c 3 _ rfl
     have r4:=HC9.out.c 4 _ rfl
     exact bodyPost_ret (v:=.tuple #[.agg #[.int .i64 6,.string t,.slice none 0 0,.slice none 0 0,.int .i64 (a:Int)],.bool true]) (by simp [results,Try.results51,go_sem,r0,r1,r2,r3,r4]) rfl ⟨by rw [HE.out]; rfl,HB9.out⟩
    | none =>
     simp only [tkF]
     obtain ⟨W4,hX⟩:∃ W4,U.alloc (.cells #[.int .i64 0,.string ⟨#[]⟩,.slice none 0 0,.slice none 0 0,.int .i64 0] 43)=W4:=⟨_,rfl⟩
     have bq:Below U.heap.size U W4:=by rw [←hX]; exact one_alloc _ _
     have hsu:=HBU.out.size
     have HR4:=hide (HR3.out.next (HBU.out.trans (bq.mono hsu)) HR3.out.lt)
     have HB4:=hide (HB3.out.trans ((HBU.out.trans (bq.mono hsu)).mono HB3.out.size))
     have HX:=hide hX
     have HN3:=hide hf
     clear bq hsu HR3 HB3 HBU HS3 hf hX
     go_upto_region 13 with fail
     rw [HX.out]
     have HS4:Hid True:=trivial
     have HVB:=hide (verbs79 W4)
     have bv:=one_alloc W4 (.cells #[.string ⟨#[43]⟩,.string ⟨#[45]⟩,.string ⟨#[195,151]⟩,.string ⟨#[124]⟩,.string ⟨#[126]⟩,.string ⟨#[226,141,179]⟩,.string ⟨#[226,141,180]⟩,.string ⟨#[226,137,162]⟩,.string ⟨#[44]⟩,.string ⟨#[226,138,150]⟩,.string ⟨#[226,140,189]⟩,.string ⟨#[226,141,137]⟩,.string ⟨#[226,141,139]⟩,.string ⟨#[226,141,146]⟩,.string ⟨#[226,136,170]⟩,.string ⟨#[226,138,130]⟩,.string ⟨#[226,138,131]⟩,.string ⟨#[195,183]⟩,.string ⟨#[226,140,138]⟩,.string ⟨#[226,140,136]⟩,.string ⟨#[61]⟩,.string ⟨#[226,137,160]⟩,.string ⟨#[60]⟩,.string ⟨#[62]⟩,.string ⟨#[226,137,164]⟩,.string ⟨#[226,137,165]⟩,.string ⟨#[226,134,145]⟩,.string ⟨#[226,134,147]⟩,.string ⟨#[226,141,170]⟩,.string ⟨#[226,136,138]⟩,.string ⟨#[226,140,191]⟩,.string ⟨#[47]⟩,.string ⟨#[92]⟩,.string ⟨#[226,141,128]⟩,.string ⟨#[226,140,183]⟩,.string ⟨#[226,141,168]⟩,.string ⟨#[226,141,163]⟩,.string ⟨#[226,139,132]⟩,.string ⟨#[226,136,152,46]⟩] 9)
     have HC:=hide (HF.out fxL4 (by decide) (by decide) W4.heap.size 39 4 _ (WsIn.new W4 fxL4 9))
     obtain ⟨V,hV⟩:∃ V,W4.alloc (.cells #[.string ⟨#[43]⟩,.string ⟨#[45]⟩,.string ⟨#[195,151]⟩,.string ⟨#[124]⟩,.string ⟨#[126]⟩,.string ⟨#[226,141,179]⟩,.string ⟨#[226,141,180]⟩,.string ⟨#[226,137,162]⟩,.string ⟨#[44]⟩,.string ⟨#[226,138,150]⟩,.string ⟨#[226,140,189]⟩,.string ⟨#[226,141,137]⟩,.string ⟨#[226,141,139]⟩,.string ⟨#[226,141,146]⟩,.string ⟨#[226,136,170]⟩,.string ⟨#[226,138,130]⟩,.string ⟨#[226,138,131]⟩,.string ⟨#[195,183]⟩,.string ⟨#[226,140,138]⟩,.string ⟨#[226,140,136]⟩,.string ⟨#[61]⟩,.string ⟨#[226,137,160]⟩,.string ⟨#[60]⟩,.string ⟨#[62]⟩,.string ⟨#[226,137,164]⟩,.string ⟨#[226,137,165]⟩,.string ⟨#[226,134,145]⟩,.string ⟨#[226,134,147]⟩,.string ⟨#[226,141,170]⟩,.string ⟨#[226,136,138]⟩,.string ⟨#[226,140,191]⟩,.string ⟨#[47]⟩,.string ⟨#[92]⟩,.string ⟨#[226,141,128]⟩,.string ⟨#[226,140,183]⟩,.string ⟨#[226,141,168]⟩,.string ⟨#[226,141,163]⟩,.string ⟨#[226,139,132]⟩,.string ⟨#[226,136,152,46]⟩] 9)=V:=⟨_,rfl⟩
     rw [hV] at HVB bv
     have HC2:Hid (Calls Try.prog 78 #[.string s,.int .i64 (a:Int),.slice (some ⟨W4.heap.size,0,none⟩) 39 39,.int .i64 4] V fun e w'=>e=.returned (tkF 4 a (fxD ((numsS s).drop a) fxL4))∧Below V.heap.size V w'):=by rw [←hV]; exact HC.out
     have HBV:=hide bv
     clear bv hV HC HF
     go_wp2_with fail
     refine HVB.out.mono ?_
     rintro e U ⟨rfl,rfl⟩
     go_wp2_with fail
     refine HC2.out.mono ?_
     rintro e X ⟨rfl,hbx⟩
     have HBX:=hide (HBV.out.trans (hbx.mono HBV.out.size))
     have RX:=HR4.out.next HBX.out HR4.out.lt
     have hbw:=HB4.out.trans (HBX.out.mono HB4.out.size)
     clear hbx HC2 HVB HBV
     cases hf:fxD ((numsS s).drop a) fxL4 with
     | some t =>
      simp only [tkF]
      have HE:=hide (show RES=some (4,t) by rw [←HRES.out]; unfold fixD; simp [hf,HN0.out,HN1.out,HN2.out,HN3.out])
      obtain ⟨W9,hW9⟩:∃ W9,X.setCells w.heap.size 0 [.int .i64 4,.string t,.slice none 0 0,.slice none 0 0,.int .i64 (a:Int)]=W9:=⟨_,rfl⟩
      have HW9:Hid (X.setCells w.heap.size 0 (#[.int .i64 4,.string t,.slice none 0 0,.slice none 0 0,.int .i64 (a:Int)]:Array Value).toList=W9):=hW9
      obtain ⟨C9,B9⟩:=RX.put (us:=[.int .i64 4,.string t,.slice none 0 0,.slice none 0 0,.int .i64 (a:Int)]) (by simp) hW9
      have HTH:=hide (RX.there (n:=5) (by simp))
      have HC9:=hide C9
      have HB9:=hide (hbw.trans (B9.below hbw.size fun k hk=>by omega))
      clear RX C9 B9 hW9 hbw HR4 HB4 HBX hf
      go_wp2_with (first | (refine wpList_store_mid rfl 43 (.tmp 4) (.tmp 54) rfl w.heap.size 0 #[.int .i64 4,.string t,.slice none 0 0,.slice none 0 0,.int .i64 (a:Int)] rfl rfl HTH.out (by kernel_rfl) (by simp [Value.oneCell']) ?_; rw [HW9.out]))
      have r0:=HC9.out.c 0 _ rfl
      have r1:=HC9.out.c 1 _ rfl
      have r2:=HC9.out.c 2 _ rfl
      have r3:=HC9.out.c 3 _ rfl
      have r4:=HC9.out.c 4 _ rfl
      exact bodyPost_ret (v:=.tuple #[.agg #[.int .i64 4,.string t,.slice none 0 0,.slice none 0 0,.int .i64 (a:Int)],.bool true]) (by simp [results,Try.results51,go_sem,r0,r1,r2,r3,r4]) rfl ⟨by rw [HE.out]; rfl,HB9.out⟩
     | none =>
      simp only [tkF]
      have HE:=hide (show RES=none by rw [←HRES.out]; unfold fixD; simp [hf,HN0.out,HN1.out,HN2.out,HN3.out])
      obtain ⟨W9,hW9⟩:∃ W9,X.setCells w.heap.size 0 [.int .i64 0,.string ⟨#[]⟩,.slice none 0 0,.slice none 0 0,.int .i64 0]=W9:=⟨_,rfl⟩
      have HW9:Hid (X.setCells w.heap.size 0 (#[.int .i64 0,.string ⟨#[]⟩,.slice none 0 0,.slice none 0 0,.int .i64 0]:Array Value).toList=W9):=hW9
      obtain ⟨C9,B9⟩:=RX.put (us:=[.int .i64 0,.string ⟨#[]⟩,.slice none 0 0,.slice none 0 0,.int .i64 0]) (by simp) hW9
      have HTH:=hide (RX.there (n:=5) (by simp))
      have HC9:=hide C9
      have HB9:=hide (hbw.trans (B9.below hbw.size fun k hk=>by omega))
      clear RX C9 B9 hW9 hbw HR4 HB4 HBX hf
      go_wp2_with (first | (refine wpList_store_mid rfl 43 (.tmp 4) (.tmp 54) rfl w.heap.size 0 #[.int .i64 0,.string ⟨#[]⟩,.slice none 0 0,.slice none 0 0,.int .i64 0] rfl rfl HTH.out (by kernel_rfl) (by simp [Value.oneCell']) ?_; rw [HW9.out]))
      have r0:=HC9.out.c 0 _ rfl
      have r1:=HC9.out.c 1 _ rfl
      have r2:=HC9.out.c 2 _ rfl
      have r3:=HC9.out.c 3 _ rfl
      have r4:=HC9.out.c 4 _ rfl
      exact bodyPost_ret (v:=.tuple #[.agg #[.int .i64 0,.string ⟨#[]⟩,.slice none 0 0,.slice none 0 0,.int .i64 0],.bool false]) (by simp [results,Try.results51,go_sem,r0,r1,r2,r3,r4]) rfl ⟨by rw [HE.out]; rfl,HB9.out⟩
end Go.Proofs.Ytnaejfoighmfeaa.Rn
namespace Go.Proofs.Ytnaejfoighmfeaa.Rn
open Go.ChangeShapes Go.WideShapes Go.ChangeAt Go.RowKit
set_option maxRecDepth 100000
set_option linter.unusedVariables false
set_option linter.unusedSimpArgs false
def wrdE (s:ByteArray) (a:Nat):Nat:=a+1+lead nmB ((numsS s).drop (a+1))
set_option maxHeartbeats 4000000 in
theorem word50 (s:ByteArray) (a:Nat) (ha:a < s.size) (hs:s.size≤8192) (w:World) :
  Calls Try.prog 50 #[.string s,.int .i64 (a:Int)] w fun e w'=>e=.returned (.tuple #[.agg #[.int .i64 3,.string (cutS s a (wrdE s a)),.slice none 0 0,.slice none 0 0,.int .i64 (a:Int)],.int .i64 (wrdE s a:Int)])∧Below w.heap.size w w':=by
 obtain ⟨W1,hW1⟩:∃ W1,w.alloc (.cells #[.int .i64 0,.string ⟨#[]⟩,.slice none 0 0,.slice none 0 0,.int .i64 0] 43)=W1:=⟨_,rfl⟩
 have b1:Below w.heap.size w W1:=by rw [←hW1]; exact one_alloc _ _
 have R1:Cs W1 w.heap.size [.int .i64 0,.string ⟨#[]⟩,.slice none 0 0,.slice none 0 0,.int .i64 0]:=by rw [←hW1]; exact Cs.new w [.int .i64 0,.string ⟨#[]⟩,.slice none 0 0,.slice none 0 0,.int .i64 0] 43
 have HX:Hid (∀ j,j < s.size→∀ W,(Instr.index 9 (.string s) (.int .i64 (j:Int))).run Try.prog W=.ok (.int .u8 (byt s j)) W):=fun j h W=>byt_run s j h W
 have HY:=hide (fun j hj=>lead_at s nmB j hj)
 have HZ:=hide (fun j hj=>lead_end s nmB j hj)
 have hle:=lead_le nmB ((numsS s).drop (a+1))
 rw [List.length_drop,numsS_len] at hle
 obtain ⟨E,hE⟩:∃ E,wrdE s a=E:=⟨_,rfl⟩
 have hEE:E=a+1+lead nmB ((numsS s).drop (a+1)):=hE.symm
 have hEl:a+1≤E∧E≤s.size:=by omega
 have HCUT:=hide (fun (x:Int) (h:x=(E:Int)) W=>cut_run s a E (by omega) hEl.2 (a:Int) x rfl h W)
 rw [hE]
 obtain ⟨CS,hCS⟩:∃ CS,cutS s a E=CS:=⟨_,rfl⟩
 rw [hCS] at HCUT ⊢
 obtain ⟨F,hF⟩:∃ F:Nat→Nat,∀ j,lead nmB ((numsS s).drop j)=F j:=⟨_,fun _=>rfl⟩
 simp only [hF] at HY HZ hEE hle
 have HLE:=hide (fun c W=>letter49 c W)
 have HDI:=hide (fun c W=>digit73 c W)
 have HW1:=hide hW1
 have HB1:=hide b1
 have HR1:=hide R1
 have HEE:=hide hEE
 obtain ⟨L,hL⟩:∃ L,L=s.size:=⟨_,rfl⟩
 have HL:=hide hL
 rw [←hL] at HX HY HZ hs ha hEl
 generalize hB:byt s=Bt at *
 clear hF hCS hE hEE hW1 b1 R1 hle hB
 go_enter Try.func50,Try.ntmps50
 go_wp2
 rw [HW1.out]
 go_loopg [6] (L - (a+1)) (fun g iv wr=>∃ j:Nat,g+j=L∧a+1≤j∧iv=.int .i64 (j:Int)∧j+F j=E∧wr=W1)
 case atStart=>exact ⟨a+1,by omega,by omega,by go_num,HEE.out.symm,rfl⟩
 case round =>
  clear HW1 HEE
  obtain ⟨j,hj,haj,rfl,hf,rfl⟩:=hrel
  have HF:=hide hf
  clear hf
  by_cases hlt:j < L
  ·have hx:=HX.out j hlt
   have hy:=HY.out j hlt
   have hlt2:(j:Int) < (s.size:Int):=by omega
   have HL1:=hide (HLE.out (Bt j))
   have HD1:=hide (HDI.out (Bt j))
   clear HX HY HZ HLE HDI
   generalize Bt j=c at *
   cases hl:ltB c with
   | true =>
    have HG:=hide (show j+1+F (j+1)=E by rw [←HF.out,hy]; simp [nmB,hl]; omega)
    simp only [hl] at HL1
    clear hy HF hL HD1 hl HCUT
    go_wp2_with fail
    refine (HL1.out _).mono ?_
    rintro e w2 ⟨rfl,rfl⟩
    clear HL1
    go_wp2
    go_roundg (L - (j+1))
    case rel=>exact ⟨j+1,by omega,by omega,by go_num,HG.out,rfl⟩
    case measure=>omega
   | false =>
    cases hd:dgB c with
    | true =>
     have HG:=hide (show j+1+F (j+1)=E by rw [←HF.out,hy]; simp [nmB,hl,hd]; omega)
     simp only [hl] at HL1
     simp only [hd] at HD1
     clear hy HF hL hl hd HCUT
     go_wp2_with fail
     refine (HL1.out _).mono ?_
     rintro e w2 ⟨rfl,rfl⟩
     clear HL1
     go_wp2_with fail
     refine (HD1.out _).mono ?_
     rintro e w2 ⟨rfl,rfl⟩
     clear HD1
     go_wp2
     go_roundg (L - (j+1))
     case rel=>exact ⟨j+1,by omega,by omega,by go_num,HG.out,rfl⟩
     case measure=>omega
    | false =>
     have hje:j=E:=by rw [←HF.out,hy]; simp [nmB,hl,hd]
     simp only [hl] at HL1
     simp only [hd] at HD1
     clear hy HF hl hd
     subst hje
     have hcut:=HCUT.out (j:Int) rfl
     obtain ⟨W9,hW9⟩:∃ W9,wr.setCells w.heap.size 0 [.int .i64 3,.string CS,.slice none 0 0,.slice none 0 0,.int .i64 (a:Int)]=W9:=⟨_,rfl⟩
     have HW9:Hid (wr.setCells w.heap.size 0 (#[.int .i64 3,.string CS,.slice none 0 0,.slice none 0 0,.int .i64 (a:Int)]:Array Value).toList=W9):=hW9
     obtain ⟨C9,B9⟩:=HR1.out.put (us:=[.int .i64 3,.string CS,.slice none 0 0,.slice none 0 0,.int .i64 (a:Int)]) (by simp) hW9
     have HTH:=hide (HR1.out.there (n:=5) (by simp))
     have HC9:=hide C9
     have HB9:=hide (HB1.out.trans (B9.below HB1.out.size fun k hk=>by omega))
     clear C9 B9 hW9 HB1 HR1 hL HCUT
     go_wp2_with fail
     refine (HL1.out _).mono ?_
     rintro e w2 ⟨rfl,rfl⟩
     clear HL1
     go_wp2_with fail
     refine (HD1.out _).mono ?_
     rintro e w2 ⟨rfl,rfl⟩
     clear HD1
     go_wp2_with (first | (refine wpList_store_mid rfl 43 (.tmp 4) (.tmp 32) rfl w.heap.size 0 #[.int .i64 3,.string CS,.slice none 0 0,.slice none 0 0,.int .i64 (a:Int)] rfl rfl HTH.out (by kernel_rfl) (by simp [Value.oneCell']) ?_; rw [HW9.out]))
     have r0:=HC9.out.c 0 _ rfl
     have r1:=HC9.out.c 1 _ rfl
     have r2:=HC9.out.c 2 _ rfl
     have r3:=HC9.out.c 3 _ rfl
     have r4:=HC9.out.c 4 _ rfl
     exact bodyPost_ret (v:=.tuple #[.agg #[.int .i64 3,.string CS,.slice none 0 0,.slice none 0 0,.int .i64 (a:Int)],.int .i64 (j:Int)]) (by simp [results,Try.results50,go_sem,r0,r1,r2,r3,r4]) rfl ⟨rfl,HB9.out⟩
  ·have hz:=HZ.out j hlt
   have hlt2:¬ (j:Int) < (s.size:Int):=by omega
   have hje:j=E:=by rw [←HF.out,hz]; rfl
   clear HX HY HZ HLE HDI hz HF
   subst hje
   have hcut:=HCUT.out (j:Int) rfl
   obtain ⟨W9,hW9⟩:∃ W9,wr.setCells w.heap.size 0 [.int .i64 3,.string CS,.slice none 0 0,.slice none 0 0,.int .i64 (a:Int)]=W9:=⟨_,rfl⟩
   have HW9:Hid (wr.setCells w.heap.size 0 (#[.int .i64 3,.string CS,.slice none 0 0,.slice none 0 0,.int .i64 (a:Int)]:Array Value).toList=W9):=hW9
   obtain ⟨C9,B9⟩:=HR1.out.put (us:=[.int .i64 3,.string CS,.slice none 0 0,.slice none 0 0,.int .i64 (a:Int)]) (by simp) hW9
   have HTH:=hide (HR1.out.there (n:=5) (by simp))
   have HC9:=hide C9
   have HB9:=hide (HB1.out.trans (B9.below HB1.out.size fun k hk=>by omega))
   clear C9 B9 hW9 HB1 HR1 hL HCUT
   go_wp2_with (first | (refine wpList_store_mid rfl 43 (.tmp 4) (.tmp 32) rfl w.heap.size 0 #[.int .i64 3,.string CS,.slice none 0 0,.slice none 0 0,.int .i64 (a:Int)] rfl rfl HTH.out (by kernel_rfl) (by simp [Value.oneCell']) ?_; rw [HW9.out]))
   have r0:=HC9.out.c 0 _ rfl
   have r1:=HC9.out.c 1 _ rfl
   have r2:=HC9.out.c 2 _ rfl
   have r3:=HC9.out.c 3 _ rfl
   have r4:=HC9.out.c 4 _ rfl
   exact bodyPost_ret (v:=.tuple #[.agg #[.int .i64 3,.string CS,.slice none 0 0,.slice none 0 0,.int .i64 (a:Int)],.int .i64 (j:Int)]) (by simp [results,Try.results50,go_sem,r0,r1,r2,r3,r4]) rfl ⟨rfl,HB9.out⟩
end Go.Proofs.Ytnaejfoighmfeaa.Rn
