import Derived.Test.YtnaejfoighmfeaaM9
import Derived.Laws.BitsAllLaws
import Derived.Lib.Bits
import Derived.Test.YtnaejfoighmfeaaChecked
import GoSem.Claim
import GoSem.ClaimJoined
import GoSem.ClaimMapViews
import Derived.JoinedTies
import Derived.KernelRfl
import Derived.WalkKit
import Derived.ProofKit
import Derived.Below
import Derived.Deep.QuietTactic
import Derived.BigQuiet
import Derived.Lib.SlBytesConst
import Derived.Laws.BytesArg
import Derived.Laws.MakeOwn
import Derived.Deep.RegionHeld3
import Derived.Laws.AppendOwnNone
import Derived.BigFrame
import Derived.OpenShut
import Derived.ChangeOld
import Derived.SizedLaws
import Derived.Deep.DeepHandedRow
import Derived.Lib.LaidTab
import Derived.Deep.OwnRows
import Derived.Deep.RegionWith
import Derived.Deep.Slices
import Derived.Deep.Strs
import Derived.Deep.LoopGhost
import Derived.Lib.ConvBytes
import Derived.Deep.RegionLaw
import Derived.Deep.CutRange
import Derived.Lib.SliceRun
import Derived.WalkLawsBesides
import Derived.Maps.AppendAt
import Derived.Deep.MidRow
import Derived.Defers
import Derived.Recover
import Derived.Deep.Cut
import Derived.ChangeMaps5
namespace Go.Proofs.Ytnaejfoighmfeaa
open Go.ChangeShapes Go.WideShapes Go.ChangeAt Go.RowKit
set_option maxRecDepth 100000
set_option linter.unusedVariables false
set_option linter.unusedSimpArgs false
def Sr {α β:Type} (k:α→β) (x:Rs α) (y:Rs β):Prop:=∀ a,x=.ok a→y=.ok (k a)∨∃ p,y=.bad 15 p
theorem Sr.ok {α β:Type} {k:α→β} {a:α} {b:β} (h:b=k a):Sr k (.ok a) (.ok b):=fun c hc=>by cases hc;exact Or.inl (by rw [h])
theorem Sr.bad {α β:Type} {k:α→β} {e p:Int} {y:Rs β}:Sr k (.bad e p) y:=fun c hc=>by cases hc
theorem Sr.stuck {α β:Type} {k:α→β} {y:Rs β}:Sr k .stuck y:=fun c hc=>by cases hc
theorem Sr.deep {α β:Type} {k:α→β} {x:Rs α} {p:Int}:Sr k x (.bad 15 p):=fun c hc=>Or.inr ⟨p,rfl⟩
theorem Sr.bind {α β γ δ:Type} {k:α→β} {m:γ→δ} {x:Rs α} {y:Rs β} {f:α→Rs γ} {h:β→Rs δ} (hx:Sr k x y) (hf:∀ a,x=.ok a→Sr m (f a) (h (k a))):Sr m (x.bind f) (y.bind h):=by
 intro c hc
 obtain ⟨a,h1,h2⟩:=Rs.bind_ok hc
 rcases hx a h1 with h3|⟨p,h3⟩
 ·rw [h3];exact hf a h1 c h2
 ·rw [h3];exact Or.inr ⟨p,rfl⟩
theorem isT_app {k:Int} {t:ByteArray} {l:List Wo} (c:Wo) (hc:c.kind=6) (hk:k≠6):isT k t (l++[c])=isT k t l:=by
 cases l with
|nil=>simp [isT,hc];intro h;exact absurd h.symm hk
|cons x r=>rfl
theorem signT_app {L:List ByteArray} {l:List Wo} (c:Wo) (hc:c.kind=6):signT L (l++[c])=signT L l:=by
 cases l with
|nil=>simp [signT,isT,hc]
|cons x r=>rfl
theorem tailR_app (g:Gr) (c:Wo) (hc:c.kind=6) (l:List Wo):tailR g (l++[c])=tailR g l:=by
 induction l using tailR.induct g with
|case1=>simp [tailR,signT,isT,hc]
|case2 x h=>simp only [List.cons_append,List.nil_append,tailR,h,if_true];simp [signT,isT,hc]
|case3 x h=>simp only [List.cons_append,List.nil_append,tailR,h];simp [powT,hc]
|case4 x y r h ih=>simp only [List.cons_append,tailR,h,if_true] at ih ⊢;rw [ih]
|case5 x y r h h2 ih =>
  have h3:powT g (x::y::(r++[c]))=true:=h2
  simp only [List.cons_append,tailR,h,h2,h3,if_true] at ih ⊢;rw [ih];rfl
|case6 x y r h h2 =>
  have h3:¬ powT g (x::y::(r++[c]))=true:=h2
  simp only [List.cons_append,tailR,h,h2,h3];rfl
theorem adv_app (g:Gr) (p:Int) (c:Wo) (hc:c.kind=6) (f:Nd) (l:List Wo):advR g p f (l++[c])=((advR g p f l).1,(advR g p f l).2++[c]):=by
 induction f,l using advR.induct g p with
|case1 f=>simp [advR,signT,isT,hc]
|case2 f x h=>simp only [List.cons_append,List.nil_append,advR,h,if_true];simp [signT,isT,hc]
|case3 f x h=>simp only [List.cons_append,List.nil_append,advR,h];simp [powT,hc]
|case4 f x y r h ih=>simp only [List.cons_append,advR,h,if_true] at ih ⊢;rw [ih]
|case5 f x y r h h2 ih =>
  have h3:powT g (x::y::(r++[c]))=true:=h2
  simp only [List.cons_append,advR,h,h2,h3,if_true] at ih ⊢;rw [if_neg (by simp),ih,if_neg (by simp)]
|case6 f x y r h h2 =>
  have h3:¬ powT g (x::y::(r++[c]))=true:=h2
  simp only [List.cons_append,advR,h,h2,h3];simp
theorem adv_none {g:Gr} {p:Int} {f:Nd} {l:List Wo} (h1:signT g.adverbs l=false) (h2:powT g l=false):advR g p f l=(f,l)∧tailR g l=0:=by
 match l with
|[]=>exact ⟨rfl,rfl⟩
|[x]=>simp [advR,tailR,h1]
|x::y::r =>
  have h3:signT g.adverbs [x]=false:=h1
  simp [advR,tailR,h3,h2]
theorem clo_app (c:Wo) (hc:c.kind=6) (l:List Wo):∀ d,(clo d l≠0→clo d (l++[c])=clo d l)∧(clo d (l++[c])≠0→clo d (l++[c])≤l.length→clo d l=clo d (l++[c])):=by
 induction l with
|nil=>intro d;exact ⟨fun h=>absurd rfl h,fun h h2=>by simp at h2;exact absurd h2 h⟩
|cons x r ih =>
  intro d
  simp only [List.cons_append,clo,List.length_cons]
  have hadd:∀ d',(addk 1 (clo d' r)≠0→addk 1 (clo d' (r++[c]))=addk 1 (clo d' r))∧(addk 1 (clo d' (r++[c]))≠0→addk 1 (clo d' (r++[c]))≤r.length+1→addk 1 (clo d' r)=addk 1 (clo d' (r++[c]))):=by
   intro d'
   constructor
   ·intro h
    have:clo d' r≠0:=fun h0=>h (by rw [h0];rfl)
    rw [(ih d').1 this]
   ·intro h h2
    have h0:clo d' (r++[c])≠0:=fun h0=>h (by rw [h0];rfl)
    rw [(ih d').2 h0 (by unfold addk at h2;rw [if_neg h0] at h2;omega)]
  split
  ·exact hadd _
  ·split
   ·split
    ·exact ⟨fun _=>rfl,fun _ _=>rfl⟩
    ·exact hadd _
   ·exact hadd _
def Tl (z:List Wo):Prop:=z=[]∨∃ c,z=[c]∧c.kind=6
theorem isT_tl {k:Int} {t:ByteArray} {l z:List Wo} (hz:Tl z) (hk:k≠6):isT k t (l++z)=isT k t l:=by
 rcases hz with rfl|⟨c,rfl,hc⟩
 ·rw [List.append_nil]
 ·exact isT_app c hc hk
theorem isT6_tl {k:Int} {t:ByteArray} {l:List Wo} (z:List Wo) (hl:l≠[]):isT k t (l++z)=isT k t l:=by
 cases l with
|nil=>exact absurd rfl hl
|cons x r=>rfl
theorem signT_tl {L:List ByteArray} {l z:List Wo} (hz:Tl z):signT L (l++z)=signT L l:=by
 rcases hz with rfl|⟨c,rfl,hc⟩
 ·rw [List.append_nil]
 ·exact signT_app c hc
theorem tailR_tl (g:Gr) {l z:List Wo} (hz:Tl z):tailR g (l++z)=tailR g l:=by
 rcases hz with rfl|⟨c,rfl,hc⟩
 ·rw [List.append_nil]
 ·exact tailR_app g c hc l
theorem adv_tl (g:Gr) (p:Int) {z:List Wo} (hz:Tl z) (f:Nd) (l:List Wo):advR g p f (l++z)=((advR g p f l).1,(advR g p f l).2++z):=by
 rcases hz with rfl|⟨c,rfl,hc⟩
 ·simp
 ·exact adv_app g p c hc f l
theorem overR_tl {l z:List Wo} (hz:Tl z):overR (l++z)=overR l:=by
 rcases hz with rfl|⟨c,rfl,hc⟩
 ·rw [List.append_nil]
 ·cases l with
 |nil=>simp [overR,hc]
 |cons x r=>rfl
def Up (z:List Wo) (W:List Wo→Nat) (l:List Wo):Prop:=(W l≠0→W (l++z)=W l)∧(W (l++z)≠0→W (l++z)≤l.length→W l=W (l++z))
theorem clo_tl {z:List Wo} (hz:Tl z) (d:Nat) (l:List Wo):Up z (clo d) l:=by
 rcases hz with rfl|⟨c,rfl,hc⟩
 ·unfold Up;rw [List.append_nil];exact ⟨fun _=>rfl,fun _ _=>rfl⟩
 ·exact clo_app c hc l d
theorem drop_tl {l:List Wo} {k:Nat} (z:List Wo) (h:k≤l.length):(l++z).drop k=l.drop k++z:=by rw [List.drop_append_of_le_length h]
theorem chain_up {z:List Wo} {W:List Wo→Nat} {n:Nat} (hW:∀ l:List Wo,l.length≤n→Up z W l) (hle:∀ l:List Wo,W l≤l.length) (hh:∀ l:List Wo,W l≠0→∃ x r,l=x::r∧(x.kind=4∨x.kind=5)) (m:Nat):∀ l:List Wo,l.length≤n →
  (isT 6 rc (l.drop (chainR W m l).2)=true→chainR W m (l++z)=chainR W m l)∧((chainR W m (l++z)).2≤l.length→chainR W m l=chainR W m (l++z)):=by
 induction m with
|zero=>intro l hl;exact ⟨fun _=>rfl,fun _=>rfl⟩
|succ m ih =>
  intro l hl
  have hu:=hW l hl
  have hlen:=hle l
  have hI:=ih (l.drop (W l)) (by rw [List.length_drop];omega)
  constructor
  ·intro h
   simp only [chainR] at h ⊢
   by_cases h0:W l=0
   ·rw [if_pos h0] at h
    rw [List.drop_zero] at h
    obtain ⟨x,r,rfl,hk⟩:=isT_kind h
    have h1:W (x::r++z)=0:=Decidable.byContradiction fun hne=>by
     obtain ⟨y,r',he,hy⟩:=hh _ hne
     cases he
     omega
    rw [if_pos h1,if_pos h0]
   ·rw [if_neg h0,← List.drop_drop] at h
    have h1:=hu.1 h0
    rw [h1,if_neg h0,if_neg h0,drop_tl z hlen,hI.1 h]
  ·intro h
   simp only [chainR] at h ⊢
   by_cases h1:W (l++z)=0
   ·have h0:W l=0:=Decidable.byContradiction fun hne=>hne ((hu.1 hne).symm.trans h1)
    rw [if_pos h1,if_pos h0]
   ·rw [if_neg h1] at h
    have h2:W (l++z)≤l.length:=by simp only at h;omega
    have h3:=hu.2 h1 h2
    rw [←h3] at h h1
    rw [←h3,if_neg h1,if_neg h1,drop_tl z hlen]
    rw [drop_tl z hlen] at h
    rw [hI.2 (by rw [List.length_drop];simp only at h;omega)]
theorem isT6_ne {t:ByteArray} {k:Int} {l:List Wo} (h:isT k t l=true):l≠[]:=by
 intro h0;rw [h0] at h;cases h
theorem brack_cons (g:Gr) (W:List Wo→Nat) (x:Wo) (r:List Wo):brackR g W (x::r)=if (chainR W (most g) r).1=0 then 0 else if isT 6 rc (r.drop (chainR W (most g) r).2)=true then (chainR W (most g) r).2+2 else 0:=rfl
theorem brack_ne {g:Gr} {W:List Wo→Nat} {x:Wo} {r:List Wo} (h:brackR g W (x::r)≠0):(chainR W (most g) r).1≠0∧isT 6 rc (r.drop (chainR W (most g) r).2)=true∧brackR g W (x::r)=(chainR W (most g) r).2+2:=by
 rw [brack_cons] at h ⊢
 by_cases h1:(chainR W (most g) r).1=0
 ·rw [if_pos h1] at h;exact absurd rfl h
 ·rw [if_neg h1] at h ⊢
  by_cases h2:isT 6 rc (r.drop (chainR W (most g) r).2)=true
  ·rw [if_pos h2];exact ⟨h1,h2,rfl⟩
  ·rw [if_neg h2] at h;exact absurd rfl h
theorem brack_is {g:Gr} {W:List Wo→Nat} {x:Wo} {r:List Wo} (h1:(chainR W (most g) r).1≠0) (h2:isT 6 rc (r.drop (chainR W (most g) r).2)=true):brackR g W (x::r)=(chainR W (most g) r).2+2:=by
 rw [brack_cons,if_neg h1,if_pos h2]
theorem brack_up {g:Gr} {z:List Wo} {W:List Wo→Nat} {x:Wo} {r:List Wo} (hW:∀ l:List Wo,l.length≤r.length→Up z W l) (hle:∀ l:List Wo,W l≤l.length) (hh:∀ l:List Wo,W l≠0→∃ x r,l=x::r∧(x.kind=4∨x.kind=5)):Up z (brackR g W) (x::r):=by
 have hC:=chain_up (z:=z) hW hle hh (most g) r (Nat.le_refl _)
 have hcl:(chainR W (most g) r).2≤r.length:=chain_le (n:=r.length+1) (fun l _=>hle l) (most g) r (by omega)
 constructor
 ·intro h
  obtain ⟨h1,h2,h4⟩:=brack_ne h
  have h3:=hC.1 h2
  rw [h4]
  show brackR g W (x::(r++z))=_
  rw [brack_is (by rw [h3];exact h1) (by rw [h3,drop_tl z hcl,isT6_tl z (isT6_ne h2)];exact h2),h3]
 ·intro h h9
  have h':brackR g W (x::(r++z))≠0:=h
  obtain ⟨h1,h2,h4⟩:=brack_ne h'
  have h9':brackR g W (x::(r++z))≤r.length+1:=h9
  rw [h4] at h9'
  have h3:=hC.2 (by omega)
  rw [←h3] at h1 h2 h9' h4
  have hne:r.drop (chainR W (most g) r).2≠[]:=by
   intro h0
   have:=congrArg List.length h0
   rw [List.length_drop] at this
   simp at this
   omega
  rw [drop_tl z hcl,isT6_tl z hne] at h2
  rw [brack_is h1 h2]
  exact h4.symm
structure Fine (g:Gr):Prop where
 out:∀ l,isT 4 g.outer l=true→signT g.verbs l=false∧signT g.behind l=false
 opn:∀ l,isT 5 g.opn l=true→isT 5 ro l=false
 adv:∀ l,signT g.adverbs l=true→signT g.verbs l=false∧isT 4 g.outer l=false
 pow:∀ l,isT 4 g.power l=true→signT g.verbs l=false∧isT 4 g.outer l=false
theorem stem_up {g:Gr} {z:List Wo} (hz:Tl z) (b:Bool) (l:List Wo) (hW:∀ m:List Wo,m.length<l.length→Up z (wholeR g b) m):Up z (stemR g b) l:=by
 cases l with
|nil =>
  have h0:stemR g b ([]++z)=0:=by
   rcases hz with rfl|⟨c,rfl,hc⟩
   ·exact stemR_nil g b
   ·rw [stemR_eq];simp [stemB,signT,isT,hc]
  exact ⟨fun h=>absurd (stemR_nil g b) h,fun h=>absurd h0 h⟩
|cons x r =>
  have hB:=brack_up (g:=g) (x:=x) (r:=r) (z:=z) (fun m hm=>hW m (by simp;omega)) (wholeR_le g b) (fun l h=>whole_head h)
  have hcl:=clo_tl hz 0 (x::r)
  have e1:=signT_tl (L:=g.verbs) (l:=x::r) hz
  have e2:=signT_tl (L:=g.behind) (l:=x::r) hz
  have e3:isT 5 g.opn (x::r++z)=isT 5 g.opn (x::r):=rfl
  have e4:isT 5 ro (x::r++z)=isT 5 ro (x::r):=rfl
  unfold Up
  rw [stemR_eq,stemR_eq]
  unfold stemB
  rw [e1,e2,e3,e4]
  split
  ·exact ⟨fun _=>rfl,fun _ _=>rfl⟩
  split
  ·exact hcl
  split
  ·exact hB
  ·exact ⟨fun _=>rfl,fun _ _=>rfl⟩
theorem stem_sign {g:Gr} {b:Bool} {x:Wo} {r:List Wo} (hk:x.kind=4) (h:stemR g b (x::r)≠0):signT g.verbs (x::r)=true∨signT g.behind (x::r)=true:=by
 rw [stemR_eq] at h
 unfold stemB at h
 split at h
 ·rename_i h1
  rcases (by simpa using h1:signT g.verbs (x::r)=true∨b=true∧signT g.behind (x::r)=true) with h1|⟨-,h1⟩
  ·exact Or.inl h1
  ·exact Or.inr h1
 ·rw [if_neg (by simp [isT,hk]),if_neg (by simp [isT,hk])] at h
  exact absurd rfl h
theorem whole_cons (g:Gr) (b:Bool) (x:Wo) (r:List Wo):wholeR g b (x::r)=if isT 4 g.outer (x::r)=true∧stemR g false r≠0 then stemR g false r+1+tailR g (r.drop (stemR g false r)) else if stemR g b (x::r)=0 then 0 else stemR g b (x::r)+tailR g ((x::r).drop (stemR g b (x::r))):=by
 unfold wholeR wholeS
 simp only [List.tail_cons,List.drop_succ_cons]
 by_cases h:isT 4 g.outer (x::r)=true∧stemR g false r≠0
 ·rw [if_pos h,if_pos (by simp only [Bool.and_eq_true,decide_eq_true_eq];exact ⟨h.1,decide_eq_true (Nat.pos_of_ne_zero h.2)⟩)]
 ·rw [if_neg h,if_neg (by simp only [Bool.and_eq_true,decide_eq_true_eq];intro h2;exact h ⟨h2.1,Nat.pos_iff_ne_zero.1 (of_decide_eq_true h2.2)⟩)]
theorem whole_up {g:Gr} (hg:Fine g) {z:List Wo} (hz:Tl z) (b:Bool) (l:List Wo) (hS:∀ b,Up z (stemR g b) l) (hT:Up z (stemR g false) l.tail):Up z (wholeR g b) l:=by
 cases l with
|nil =>
  have h0:wholeR g b ([]++z)=0:=by
   rcases hz with rfl|⟨c,rfl,hc⟩
   ·exact wholeR_nil g b
   ·exact Decidable.byContradiction fun hne=>by
     obtain ⟨y,r',he,hy⟩:=whole_head hne
     cases he
     omega
  exact ⟨fun h=>absurd (wholeR_nil g b) h,fun h=>absurd h0 h⟩
|cons x r =>
  have e0:isT 4 g.outer (x::(r++z))=isT 4 g.outer (x::r):=rfl
  have hsl:=stemR_le g b (x::r)
  have hsr:=stemR_le g false r
  simp only [List.tail_cons] at hT
  have hS':Up z (stemR g b) (x::r):=hS b
  unfold Up at hS' ⊢
  rw [show x::r++z=x::(r++z) from rfl] at hS' ⊢
  have ed:(x::(r++z)).drop (stemR g b (x::r))=(x::r).drop (stemR g b (x::r))++z:=drop_tl z hsl
  have er:(r++z).drop (stemR g false r)=r.drop (stemR g false r)++z:=drop_tl z hsr
  rw [whole_cons,whole_cons,e0]
  constructor
  ·intro h
   by_cases hc:isT 4 g.outer (x::r)=true∧stemR g false r≠0
   ·rw [hT.1 hc.2,if_pos hc,if_pos hc,er,tailR_tl g hz]
   ·rw [if_neg hc] at h ⊢
    by_cases h0:stemR g b (x::r)=0
    ·rw [if_pos h0] at h;exact absurd rfl h
    rw [if_neg h0]
    have hno:¬ (isT 4 g.outer (x::r)=true∧stemR g false (r++z)≠0):=by
     intro hc2
     obtain ⟨y,q,he,hk⟩:=isT_kind hc2.1
     cases he
     have:=hg.out _ hc2.1
     rcases stem_sign hk h0 with h1|h1
     ·rw [this.1] at h1;cases h1
     ·rw [this.2] at h1;cases h1
    rw [if_neg hno,hS'.1 h0,if_neg h0,ed,tailR_tl g hz]
  ·intro h h9
   by_cases hc:isT 4 g.outer (x::r)=true∧stemR g false (r++z)≠0
   ·rw [if_pos hc] at h9 ⊢
    simp only [List.length_cons] at h9
    have h3:=hT.2 hc.2 (by omega)
    rw [←h3] at hc ⊢
    rw [if_pos hc,er,tailR_tl g hz]
   ·rw [if_neg hc] at h h9 ⊢
    by_cases h0:stemR g b (x::(r++z))=0
    ·rw [if_pos h0] at h;exact absurd rfl h
    rw [if_neg h0] at h9 ⊢
    have h3:=hS'.2 h0 (by omega)
    have hno:¬ (isT 4 g.outer (x::r)=true∧stemR g false r≠0):=by
     intro hc2
     have:=hT.1 hc2.2
     exact hc ⟨hc2.1,by rw [this];exact hc2.2⟩
    rw [←h3] at h0 ⊢
    rw [if_neg hno,if_neg h0,ed,tailR_tl g hz]
theorem all_up {g:Gr} (hg:Fine g) {z:List Wo} (hz:Tl z) (n:Nat):∀ l:List Wo,l.length≤n→∀ b,Up z (stemR g b) l∧Up z (wholeR g b) l:=by
 induction n with
|zero =>
  intro l hl b
  have hs:∀ b,Up z (stemR g b) l:=fun b=>stem_up hz b l fun m hm=>by omega
  have:l=[]:=List.length_eq_zero_iff.1 (by omega)
  subst this
  exact ⟨hs b,whole_up hg hz b [] hs (hs false)⟩
|succ n ih =>
  intro l hl b
  have hs:∀ b,Up z (stemR g b) l:=fun b=>stem_up hz b l fun m hm=>(ih m (by omega) b).2
  refine ⟨hs b,whole_up hg hz b l hs ?_⟩
  cases l with
 |nil=>exact hs false
 |cons x r=>exact (ih r (by simp at hl;omega) false).1
theorem whole_tl {g:Gr} (hg:Fine g) {z:List Wo} (hz:Tl z) (b:Bool) (l:List Wo):Up z (wholeR g b) l:=(all_up hg hz l.length l (Nat.le_refl _) b).2
theorem stem_tl {g:Gr} (hg:Fine g) {z:List Wo} (hz:Tl z) (b:Bool) (l:List Wo):Up z (stemR g b) l:=(all_up hg hz l.length l (Nat.le_refl _) b).1
end Go.Proofs.Ytnaejfoighmfeaa
namespace Go.Proofs.Ytnaejfoighmfeaa.Rn
open Go.ChangeShapes Go.WideShapes Go.ChangeAt Go.RowKit
set_option maxRecDepth 100000
set_option linter.unusedVariables false
set_option linter.unusedSimpArgs false
def jG:Gr where
 verbs:=[⟨#[45,46]⟩,⟨#[124,46]⟩,⟨#[124,58]⟩,⟨#[60,46]⟩,⟨#[60,58]⟩,⟨#[62,46]⟩,⟨#[62,58]⟩,⟨#[126,46]⟩,⟨#[126,58]⟩,⟨#[44,58]⟩,⟨#[47,58]⟩,⟨#[92,58]⟩,⟨#[123,46]⟩,⟨#[125,46]⟩,⟨#[45]⟩,⟨#[42]⟩,⟨#[124]⟩,⟨#[37]⟩,⟨#[43]⟩,⟨#[60]⟩,⟨#[62]⟩,⟨#[61]⟩,⟨#[36]⟩,⟨#[35]⟩,⟨#[44]⟩,⟨#[123]⟩,⟨#[105,46]⟩,⟨#[101,46]⟩]
 adverbs:=[⟨#[47]⟩,⟨#[92]⟩,⟨#[126]⟩,⟨#[34,49]⟩]
 behind:=[]
 outer:=⟨#[]⟩
 power:=⟨#[94,58]⟩
 opn:=⟨#[123,123]⟩
 cls:=⟨#[125,125]⟩
 left:=⟨#[120]⟩
 right:=⟨#[121]⟩
 trains:=true
 lone:=false
 square:=false
def kG:Gr where
 verbs:=[⟨#[43]⟩,⟨#[45]⟩,⟨#[42]⟩,⟨#[37]⟩,⟨#[38]⟩,⟨#[124]⟩,⟨#[60]⟩,⟨#[62]⟩,⟨#[61]⟩,⟨#[126]⟩,⟨#[33]⟩,⟨#[35]⟩,⟨#[95]⟩,⟨#[44]⟩,⟨#[94]⟩,⟨#[63]⟩,⟨#[64]⟩]
 adverbs:=[⟨#[47]⟩,⟨#[92]⟩]
 behind:=[]
 outer:=⟨#[]⟩
 power:=⟨#[]⟩
 opn:=⟨#[123]⟩
 cls:=⟨#[125]⟩
 left:=⟨#[120]⟩
 right:=⟨#[121]⟩
 trains:=false
 lone:=true
 square:=true
theorem isT_text {k:Int} {t:ByteArray} {l:List Wo} (h:isT k t l=true):∃ x r,l=x::r∧x.kind=k∧x.text.toList=t.toList∧t.toList≠[]:=by
 cases l with
|nil=>cases h
|cons x r =>
  simp only [isT,Bool.and_eq_true,decide_eq_true_eq,beq_iff_eq,Bool.not_eq_true',beq_eq_false_iff_ne] at h
  exact ⟨x,r,rfl,h.1,h.2.1,h.2.2⟩
theorem sign_not {k:Int} {t:ByteArray} {L:List ByteArray} {l:List Wo} (h:isT k t l=true) (hn:inL L t=false):signT L l=false:=by
 obtain ⟨x,r,rfl,-,h1,-⟩:=isT_text h
 have:inL L x.text=inL L t:=by simp only [inL,h1]
 simp only [signT,this,hn,Bool.and_false]
theorem isT_not {k k':Int} {t t':ByteArray} {l:List Wo} (h:isT k t l=true) (hn:(t.toList==t'.toList)=false∨t'.toList=[]):isT k' t' l=false:=by
 obtain ⟨x,r,rfl,-,h1,-⟩:=isT_text h
 simp only [isT,h1]
 rcases hn with hn|hn
 ·simp [hn]
 ·simp [hn]
def aptB (g:Gr):Bool:=(g.outer.toList==[]||(!(inL g.verbs g.outer)&&!(inL g.behind g.outer)))&&(g.opn.toList==[]||!(g.opn.toList==ro.toList))&&g.adverbs.all (fun t=>!(inL g.verbs t)&&(!(t.toList==g.outer.toList)||g.outer.toList==[]))&&(g.power.toList==[]||(!(inL g.verbs g.power)&&(!(g.power.toList==g.outer.toList)||g.outer.toList==[])))
theorem fine_of {g:Gr} (h:aptB g=true):Fine g:=by
 simp only [aptB,Bool.and_eq_true,Bool.or_eq_true,Bool.not_eq_true',beq_iff_eq] at h
 obtain ⟨⟨⟨h1,h2⟩,h3⟩,h4⟩:=h
 refine ⟨fun l hl=>?_,fun l hl=>?_,fun l hl=>?_,fun l hl=>?_⟩
 ·rcases h1 with h1|h1
  ·obtain ⟨x,r,rfl,-,-,h9⟩:=isT_text hl
   exact absurd h1 h9
  ·exact ⟨sign_not hl h1.1,sign_not hl h1.2⟩
 ·rcases h2 with h2|h2
  ·obtain ⟨x,r,rfl,-,-,h9⟩:=isT_text hl
   exact absurd h2 h9
  ·exact isT_not hl (Or.inl h2)
 ·obtain ⟨x,r,rfl,hk⟩:=signT_kind hl
  simp only [signT,Bool.and_eq_true] at hl
  obtain ⟨ha,hb⟩:=hl
  simp only [inL,List.any_eq_true,beq_iff_eq] at hb
  obtain ⟨t,ht,hx⟩:=hb
  have h5:=List.all_eq_true.1 h3 t ht
  simp only [Bool.and_eq_true,Bool.or_eq_true,Bool.not_eq_true',beq_iff_eq] at h5
  have h6:isT 4 t (x::r)=true:=by
   simp only [isT,Bool.and_eq_true,decide_eq_true_eq,beq_iff_eq,Bool.not_eq_true',beq_eq_false_iff_ne] at ha ⊢
   exact ⟨hk,hx,by rw [←hx];exact ha.2.2⟩
  exact ⟨sign_not h6 h5.1,isT_not h6 h5.2⟩
 ·rcases h4 with h4|h4
  ·obtain ⟨x,r,rfl,-,-,h9⟩:=isT_text hl
   exact absurd h4 h9
  ·exact ⟨sign_not hl h4.1,isT_not hl h4.2⟩
theorem apl_fine:Fine aplG:=fine_of (by kernel_rfl)
theorem j_fine:Fine jG:=fine_of (by kernel_rfl)
theorem k_fine:Fine kG:=fine_of (by kernel_rfl)
def GvB (G:Gr) (w:World) (e:Ending) (w':World):Prop:=Below w.heap.size w w'∧∃ R:Raw,e=.returned (gV G R)∧StrsIn w' R.av G.verbs∧StrsIn w' R.aa G.adverbs∧StrsIn w' R.ab G.behind∧∀ b off,(R.av=some ⟨b,off,none⟩∨R.aa=some ⟨b,off,none⟩∨R.ab=some ⟨b,off,none⟩)→w.heap.size≤b
def StrsK (lo:Nat) (w:World) (a:Option Addr) (l:List ByteArray):Prop:=∀ W,(w.heap.size≤W.heap.size∧∀ k,lo≤k→k<w.heap.size→W.heap[k]?=w.heap[k]?)→StrsIn W a l
theorem StrsK.of {lo:Nat} {w:World} {a:Option Addr} {l:List ByteArray} (h:StrsIn w a l) (hb:∀ b off,a=some ⟨b,off,none⟩→lo≤b):StrsK lo w a l:=fun W hW=>⟨h.1,fun j hj=>by
 obtain ⟨b,off,he,hl,hc⟩:=h.2 j hj
 exact ⟨b,off,he,Nat.lt_of_lt_of_le hl hW.1,(World.cell?_of_block (w:=w) (a:=⟨b,off+j,none⟩) (hW.2 b (hb b off he) hl)).trans hc⟩⟩
set_option maxHeartbeats 4000000 in
theorem aplB {w:World}:Calls Try.prog 13 #[] w fun e w'=>GvB aplG w e w':=by
 have H:∀ g,g=aplG→∀ W1 W2 W3 W4:World,w.alloc (.cells #[.slice (some ⟨w.heap.size+1,0,none⟩) 31 31,.slice (some ⟨w.heap.size+1+1,0,none⟩) 5 5,.slice (some ⟨w.heap.size+1+1+1,0,none⟩) 2 2,.string g.outer,.string g.power,.string g.opn,.string g.cls,.string g.left,.string g.right,.string ⟨#[194,175]⟩,.string ⟨#[39]⟩,.bool false,.bool false,.bool true] 24)=W1→W1.alloc (.cells (g.verbs.map Value.string).toArray 9)=W2→W2.alloc (.cells (g.adverbs.map Value.string).toArray 9)=W3→W3.alloc (.cells (g.behind.map Value.string).toArray 9)=W4→
   (Below w.heap.size w W4∧StrsIn W4 (some ⟨w.heap.size+1,0,none⟩) g.verbs∧StrsIn W4 (some ⟨w.heap.size+1+1,0,none⟩) g.adverbs∧StrsIn W4 (some ⟨w.heap.size+1+1+1,0,none⟩) g.behind)∧W4.rangeAt w.heap.size 0 [.slice (some ⟨w.heap.size+1,0,none⟩) 31 31,.slice (some ⟨w.heap.size+1+1,0,none⟩) 5 5,.slice (some ⟨w.heap.size+1+1+1,0,none⟩) 2 2,.string g.outer,.string g.power,.string g.opn,.string g.cls,.string g.left,.string g.right,.string ⟨#[194,175]⟩,.string ⟨#[39]⟩,.bool false,.bool false,.bool true]:=by
  intro g hg W1 W2 W3 W4 h1 h2 h3 h4
  have b1:Below w.heap.size w W1:=by rw [←h1];exact one_alloc _ _
  have b2:Below W1.heap.size W1 W2:=by rw [←h2];exact one_alloc _ _
  have b3:Below W2.heap.size W2 W3:=by rw [←h3];exact one_alloc _ _
  have b4:Below W3.heap.size W3 W4:=by rw [←h4];exact one_alloc _ _
  have s1:W1.heap.size=w.heap.size+1:=by rw [←h1];simp
  have s2:W2.heap.size=w.heap.size+1+1:=by rw [←h2];simp [s1]
  have s3:W3.heap.size=w.heap.size+1+1+1:=by rw [←h3];simp [s2]
  have b24:Below W2.heap.size W2 W4:=b3.trans (b4.mono b3.size)
  have b14:Below W1.heap.size W1 W4:=b2.trans (b24.mono b2.size)
  have c:=Cs.new w [.slice (some ⟨w.heap.size+1,0,none⟩) 31 31,.slice (some ⟨w.heap.size+1+1,0,none⟩) 5 5,.slice (some ⟨w.heap.size+1+1+1,0,none⟩) 2 2,.string g.outer,.string g.power,.string g.opn,.string g.cls,.string g.left,.string g.right,.string ⟨#[194,175]⟩,.string ⟨#[39]⟩,.bool false,.bool false,.bool true] 24
  have c4:=(show Cs W1 w.heap.size _ from h1▸c).next b14 (by omega)
  have lv:g.verbs.length≤1000:=by subst hg;decide
  have la:g.adverbs.length≤1000:=by subst hg;decide
  have lb:g.behind.length≤1000:=by subst hg;decide
  refine ⟨⟨b1.trans (b14.mono b1.size),?_,?_,?_⟩,fun k v hv=>by rw [Nat.zero_add];exact c4.c _ _ hv⟩
  ·rw [←s1]
   exact strs_new (B:=W2.heap.size) _ lv (by omega) (by rw [h2];exact b24)
  ·rw [←s2]
   exact strs_new (B:=W3.heap.size) _ la (by omega) (by rw [h3];exact b4)
  ·rw [←s3]
   exact strs_new (B:=W4.heap.size) _ lb (by rw [←h4];simp) (by rw [h4];exact Below.refl _ _)
 go_enter Try.func13,Try.ntmps13
 go_wp2
 obtain ⟨⟨k1,k2,k3,k4⟩,kr⟩:=H aplG rfl _ _ _ _ rfl rfl rfl rfl
 clear H
 refine bodyPost_ret (v:=.agg #[.slice (some ⟨w.heap.size+1,0,none⟩) 31 31,.slice (some ⟨w.heap.size+1+1,0,none⟩) 5 5,.slice (some ⟨w.heap.size+1+1+1,0,none⟩) 2 2,.string aplG.outer,.string aplG.power,.string aplG.opn,.string aplG.cls,.string aplG.left,.string aplG.right,.string ⟨#[194,175]⟩,.string ⟨#[39]⟩,.bool false,.bool false,.bool true]) (results_cell_mid rfl _ _ w.heap.size 0 rfl [.slice (some ⟨w.heap.size+1,0,none⟩) 31 31,.slice (some ⟨w.heap.size+1+1,0,none⟩) 5 5,.slice (some ⟨w.heap.size+1+1+1,0,none⟩) 2 2,.string aplG.outer,.string aplG.power,.string aplG.opn,.string aplG.cls,.string aplG.left,.string aplG.right,.string ⟨#[194,175]⟩,.string ⟨#[39]⟩,.bool false,.bool false,.bool true] _ kr Try.underlying24 rfl (by kernel_rfl)) rfl ?_
 exact ⟨k1,⟨some ⟨w.heap.size+1,0,none⟩,31,some ⟨w.heap.size+1+1,0,none⟩,5,some ⟨w.heap.size+1+1+1,0,none⟩,2,⟨#[194,175]⟩,⟨#[39]⟩,none,0⟩,rfl,k2,k3,k4,fun b off h=>by rcases h with h|h|h<;>cases h<;>omega⟩
set_option maxHeartbeats 4000000 in
theorem jB {w:World}:Calls Try.prog 15 #[] w fun e w'=>GvB jG w e w':=by
 have H:∀ g,g=jG→∀ W1 W2 W3:World,w.alloc (.cells #[.slice (some ⟨w.heap.size+1,0,none⟩) 28 28,.slice (some ⟨w.heap.size+1+1,0,none⟩) 4 4,.slice none 0 0,.string g.outer,.string g.power,.string g.opn,.string g.cls,.string g.left,.string g.right,.string ⟨#[95]⟩,.string ⟨#[39]⟩,.bool true,.bool false,.bool false] 24)=W1→W1.alloc (.cells (g.verbs.map Value.string).toArray 9)=W2→W2.alloc (.cells (g.adverbs.map Value.string).toArray 9)=W3 →
   (Below w.heap.size w W3∧StrsIn W3 (some ⟨w.heap.size+1,0,none⟩) g.verbs∧StrsIn W3 (some ⟨w.heap.size+1+1,0,none⟩) g.adverbs)∧W3.rangeAt w.heap.size 0 [.slice (some ⟨w.heap.size+1,0,none⟩) 28 28,.slice (some ⟨w.heap.size+1+1,0,none⟩) 4 4,.slice none 0 0,.string g.outer,.string g.power,.string g.opn,.string g.cls,.string g.left,.string g.right,.string ⟨#[95]⟩,.string ⟨#[39]⟩,.bool true,.bool false,.bool false]:=by
  intro g hg W1 W2 W3 h1 h2 h3
  have b1:Below w.heap.size w W1:=by rw [←h1];exact one_alloc _ _
  have b2:Below W1.heap.size W1 W2:=by rw [←h2];exact one_alloc _ _
  have b3:Below W2.heap.size W2 W3:=by rw [←h3];exact one_alloc _ _
  have s1:W1.heap.size=w.heap.size+1:=by rw [←h1];simp
  have s2:W2.heap.size=w.heap.size+1+1:=by rw [←h2];simp [s1]
  have b13:Below W1.heap.size W1 W3:=b2.trans (b3.mono b2.size)
  have c:=Cs.new w [.slice (some ⟨w.heap.size+1,0,none⟩) 28 28,.slice (some ⟨w.heap.size+1+1,0,none⟩) 4 4,.slice none 0 0,.string g.outer,.string g.power,.string g.opn,.string g.cls,.string g.left,.string g.right,.string ⟨#[95]⟩,.string ⟨#[39]⟩,.bool true,.bool false,.bool false] 24
  have c4:=(show Cs W1 w.heap.size _ from h1▸c).next b13 (by omega)
  have lv:g.verbs.length≤1000:=by subst hg;decide
  have la:g.adverbs.length≤1000:=by subst hg;decide
  refine ⟨⟨b1.trans (b13.mono b1.size),?_,?_⟩,fun k v hv=>by rw [Nat.zero_add];exact c4.c _ _ hv⟩
  ·rw [←s1]
   exact strs_new (B:=W2.heap.size) _ lv (by omega) (by rw [h2];exact b3)
  ·rw [←s2]
   exact strs_new (B:=W3.heap.size) _ la (by rw [←h3];simp) (by rw [h3];exact Below.refl _ _)
 go_enter Try.func15,Try.ntmps15
 go_wp2
 obtain ⟨⟨k1,k2,k3⟩,kr⟩:=H jG rfl _ _ _ rfl rfl rfl
 clear H
 refine bodyPost_ret (v:=.agg #[.slice (some ⟨w.heap.size+1,0,none⟩) 28 28,.slice (some ⟨w.heap.size+1+1,0,none⟩) 4 4,.slice none 0 0,.string jG.outer,.string jG.power,.string jG.opn,.string jG.cls,.string jG.left,.string jG.right,.string ⟨#[95]⟩,.string ⟨#[39]⟩,.bool true,.bool false,.bool false]) (results_cell_mid rfl _ _ w.heap.size 0 rfl [.slice (some ⟨w.heap.size+1,0,none⟩) 28 28,.slice (some ⟨w.heap.size+1+1,0,none⟩) 4 4,.slice none 0 0,.string jG.outer,.string jG.power,.string jG.opn,.string jG.cls,.string jG.left,.string jG.right,.string ⟨#[95]⟩,.string ⟨#[39]⟩,.bool true,.bool false,.bool false] _ kr Try.underlying24 rfl (by kernel_rfl)) rfl ?_
 exact ⟨k1,⟨some ⟨w.heap.size+1,0,none⟩,28,some ⟨w.heap.size+1+1,0,none⟩,4,none,0,⟨#[95]⟩,⟨#[39]⟩,none,0⟩,rfl,k2,k3,⟨by decide,fun j hj=>absurd hj (by simp [jG])⟩,fun b off h=>by rcases h with h|h|h<;>cases h<;>omega⟩
set_option maxHeartbeats 4000000 in
theorem kB {w:World}:Calls Try.prog 17 #[] w fun e w'=>GvB kG w e w':=by
 have H:∀ g,g=kG→∀ W1 W2 W3:World,w.alloc (.cells #[.slice (some ⟨w.heap.size+1,0,none⟩) 17 17,.slice (some ⟨w.heap.size+1+1,0,none⟩) 2 2,.slice none 0 0,.string g.outer,.string g.power,.string g.opn,.string g.cls,.string g.left,.string g.right,.string ⟨#[45]⟩,.string ⟨#[34]⟩,.bool false,.bool true,.bool true] 24)=W1→W1.alloc (.cells (g.verbs.map Value.string).toArray 9)=W2→W2.alloc (.cells (g.adverbs.map Value.string).toArray 9)=W3 →
   (Below w.heap.size w W3∧StrsIn W3 (some ⟨w.heap.size+1,0,none⟩) g.verbs∧StrsIn W3 (some ⟨w.heap.size+1+1,0,none⟩) g.adverbs)∧W3.rangeAt w.heap.size 0 [.slice (some ⟨w.heap.size+1,0,none⟩) 17 17,.slice (some ⟨w.heap.size+1+1,0,none⟩) 2 2,.slice none 0 0,.string g.outer,.string g.power,.string g.opn,.string g.cls,.string g.left,.string g.right,.string ⟨#[45]⟩,.string ⟨#[34]⟩,.bool false,.bool true,.bool true]:=by
  intro g hg W1 W2 W3 h1 h2 h3
  have b1:Below w.heap.size w W1:=by rw [←h1];exact one_alloc _ _
  have b2:Below W1.heap.size W1 W2:=by rw [←h2];exact one_alloc _ _
  have b3:Below W2.heap.size W2 W3:=by rw [←h3];exact one_alloc _ _
  have s1:W1.heap.size=w.heap.size+1:=by rw [←h1];simp
  have s2:W2.heap.size=w.heap.size+1+1:=by rw [←h2];simp [s1]
  have b13:Below W1.heap.size W1 W3:=b2.trans (b3.mono b2.size)
  have c:=Cs.new w [.slice (some ⟨w.heap.size+1,0,none⟩) 17 17,.slice (some ⟨w.heap.size+1+1,0,none⟩) 2 2,.slice none 0 0,.string g.outer,.string g.power,.string g.opn,.string g.cls,.string g.left,.string g.right,.string ⟨#[45]⟩,.string ⟨#[34]⟩,.bool false,.bool true,.bool true] 24
  have c4:=(show Cs W1 w.heap.size _ from h1▸c).next b13 (by omega)
  have lv:g.verbs.length≤1000:=by subst hg;decide
  have la:g.adverbs.length≤1000:=by subst hg;decide
  refine ⟨⟨b1.trans (b13.mono b1.size),?_,?_⟩,fun k v hv=>by rw [Nat.zero_add];exact c4.c _ _ hv⟩
  ·rw [←s1]
   exact strs_new (B:=W2.heap.size) _ lv (by omega) (by rw [h2];exact b3)
  ·rw [←s2]
   exact strs_new (B:=W3.heap.size) _ la (by rw [←h3];simp) (by rw [h3];exact Below.refl _ _)
 go_enter Try.func17,Try.ntmps17
 go_wp2
 obtain ⟨⟨k1,k2,k3⟩,kr⟩:=H kG rfl _ _ _ rfl rfl rfl
 clear H
 refine bodyPost_ret (v:=.agg #[.slice (some ⟨w.heap.size+1,0,none⟩) 17 17,.slice (some ⟨w.heap.size+1+1,0,none⟩) 2 2,.slice none 0 0,.string kG.outer,.string kG.power,.string kG.opn,.string kG.cls,.string kG.left,.string kG.right,.string ⟨#[45]⟩,.string ⟨#[34]⟩,.bool false,.bool true,.bool true]) (results_cell_mid rfl _ _ w.heap.size 0 rfl [.slice (some ⟨w.heap.size+1,0,none⟩) 17 17,.slice (some ⟨w.heap.size+1+1,0,none⟩) 2 2,.slice none 0 0,.string kG.outer,.string kG.power,.string kG.opn,.string kG.cls,.string kG.left,.string kG.right,.string ⟨#[45]⟩,.string ⟨#[34]⟩,.bool false,.bool true,.bool true] _ kr Try.underlying24 rfl (by kernel_rfl)) rfl ?_
 exact ⟨k1,⟨some ⟨w.heap.size+1,0,none⟩,17,some ⟨w.heap.size+1+1,0,none⟩,2,none,0,⟨#[45]⟩,⟨#[34]⟩,none,0⟩,rfl,k2,k3,⟨by decide,fun j hj=>absurd hj (by simp [kG])⟩,fun b off h=>by rcases h with h|h|h<;>cases h<;>omega⟩
end Go.Proofs.Ytnaejfoighmfeaa.Rn
namespace Go.Proofs.Ytnaejfoighmfeaa
open Go.ChangeShapes Go.WideShapes Go.ChangeAt Go.RowKit
set_option maxRecDepth 100000
set_option linter.unusedVariables false
set_option linter.unusedSimpArgs false
theorem assert28_yes (W:World) (v:Value):(Instr.typeAssert (.iface 28 v) 20 28 true).run Try.prog W=.ok (.tuple #[v,.bool true]) W:=by kernel_rfl
theorem assert28_no (W:World):(Instr.typeAssert .nilIface 20 28 true).run Try.prog W=.ok (.tuple #[.agg #[.int .i64 0,.int .i64 0,.int .i64 0],.bool false]) W:=by kernel_rfl
set_option maxHeartbeats 2000000 in
theorem catch19 (pn pf:Nat) (er pl:Int) (w:World) (hn:Rv w pn) (hf0:∀ o,o<3→∃ v,w.cell? ⟨pf,o,none⟩=some v) (hf1:∀ o,w.frozen? ⟨pf,o,none⟩=false) (hl:pf<w.heap.size) (hne:pn≠pf) :
  CallsD Try.prog 19 #[.pointer (some ⟨pn,0,none⟩),.pointer (some ⟨pf,0,none⟩)] (.panicking [{ v:=.iface 28 (.agg #[.int .i64 er,.int .i64 pl,.int .i64 0]),recovered:=false }]) w fun e u' w' =>
   e=.returned (.tuple #[])∧u'=.panicking [{ v:=.iface 28 (.agg #[.int .i64 er,.int .i64 pl,.int .i64 0]),recovered:=true }]∧But (fun k=>k=pn∨k=pf) w w'∧w'.cell? ⟨pn,0,none⟩=some (.int .i64 0)∧w'.cell? ⟨pn,1,none⟩=some (.int .i64 0)∧w'.cell? ⟨pn,2,none⟩=some (.string ⟨#[]⟩)∧w'.cell? ⟨pn,3,none⟩=some (.slice none 0 0)∧w'.cell? ⟨pn,4,none⟩=some (.slice none 0 0)∧w'.cell? ⟨pn,5,none⟩=some (.slice none 0 0)∧w'.cell? ⟨pn,6,none⟩=some (.int .i64 0)∧w'.cell? ⟨pf,0,none⟩=some (.int .i64 er)∧w'.cell? ⟨pf,1,none⟩=some (.int .i64 pl)∧w'.cell? ⟨pf,2,none⟩=some (.int .i64 0):=by
 refine callsD_of_wpS Try.func19 rfl fun c₀ cs hu=>?_
 apply wpS_seq
 apply wpS_region
 simp [wpOpsS,go_sem,recoverD,hu,Try.ntmps19,Exit.thenS,assert28_yes]
 apply wpS_seq
 apply wpS_region
 simp [wpOpsS,go_sem,Exit.thenS]
 refine wpS_cond (t:=true) (by simp [Act.eval]) ?_
 simp only [if_true]
 refine wpS_of_wp ?_
 have hrep:Array.replicate 10 undef=#[undef,undef,undef,undef,undef,undef,undef,undef,undef,undef]:=rfl
 simp only [hrep,List.setIfInBounds_toArray,List.set_cons_succ,List.set_cons_zero,List.append_toArray,List.cons_append,List.nil_append]
 have d0:=cell_new0 w #[.int .i64 er,.int .i64 pl,.int .i64 0] 28 0 _ rfl
 have d1:=cell_new0 w #[.int .i64 er,.int .i64 pl,.int .i64 0] 28 1 _ rfl
 have d2:=cell_new0 w #[.int .i64 er,.int .i64 pl,.int .i64 0] 28 2 _ rfl
 have hb1:=one_alloc w (.cells #[.int .i64 er,.int .i64 pl,.int .i64 0] 28)
 have hs1:(w.alloc (.cells #[.int .i64 er,.int .i64 pl,.int .i64 0] 28)).heap.size=w.heap.size+1:=by simp
 generalize w.alloc (.cells #[.int .i64 er,.int .i64 pl,.int .i64 0] 28)=W1 at *
 have hn1:=hn.block hb1.size (hb1.block _ hn.lt)
 obtain ⟨n0,a0⟩:=hn1.c 0 (by omega)
 obtain ⟨n1,a1⟩:=hn1.c 1 (by omega)
 obtain ⟨n2,a2⟩:=hn1.c 2 (by omega)
 obtain ⟨n3,a3⟩:=hn1.c 3 (by omega)
 obtain ⟨n4,a4⟩:=hn1.c 4 (by omega)
 obtain ⟨n5,a5⟩:=hn1.c 5 (by omega)
 obtain ⟨n6,a6⟩:=hn1.c 6 (by omega)
 obtain ⟨m0,b0⟩:=hf0 0 (by omega)
 obtain ⟨m1,b1⟩:=hf0 1 (by omega)
 obtain ⟨m2,b2⟩:=hf0 2 (by omega)
 replace b0:=(hb1.cell (p:=⟨pf,0,none⟩) hl).trans b0
 replace b1:=(hb1.cell (p:=⟨pf,1,none⟩) hl).trans b1
 replace b2:=(hb1.cell (p:=⟨pf,2,none⟩) hl).trans b2
 have fa:=hn1.f
 have fb:∀ o,W1.frozen? ⟨pf,o,none⟩=false:=fun o=>(hb1.frozen (p:=⟨pf,o,none⟩) hl).trans (hf1 o)
 have HN1:=hide hn1
 have HB1:=hide hb1
 have hlt:=hn.lt
 clear hn hf0 hf1 hb1 hn1
 have hX:But (fun k=>k=pn∨k=pf) w ((((((((((W1.setCell ⟨pn,0,none⟩ (.int .i64 0)).setCell ⟨pn,1,none⟩ (.int .i64 0)).setCell ⟨pn,2,none⟩ (.string ⟨#[]⟩)).setCell ⟨pn,3,none⟩ (.slice none 0 0)).setCell ⟨pn,4,none⟩ (.slice none 0 0)).setCell ⟨pn,5,none⟩ (.slice none 0 0)).setCell ⟨pn,6,none⟩ (.int .i64 0)).setCell ⟨pf,0,none⟩ (.int .i64 er)).setCell ⟨pf,1,none⟩ (.int .i64 pl)).setCell ⟨pf,2,none⟩ (.int .i64 0)):=butS (butS (butS (butS (butS (butS (butS (butS (butS (butS (But.of HB1.out) (Or.inl rfl)) (Or.inl rfl)) (Or.inl rfl)) (Or.inl rfl)) (Or.inl rfl)) (Or.inl rfl)) (Or.inl rfl)) (Or.inr rfl)) (Or.inr rfl)) (Or.inr rfl)
 have x0:=((cs_off (by omega) (cs_off (by omega) (cs_off (by omega) (cs_off (by omega) (cs_off (by omega) (cs_off (by omega) (cs_off (by omega) (cs_off (by omega) (cs_off (by omega) (cs_same a0)))))))))):((((((((((W1.setCell ⟨pn,0,none⟩ (.int .i64 0)).setCell ⟨pn,1,none⟩ (.int .i64 0)).setCell ⟨pn,2,none⟩ (.string ⟨#[]⟩)).setCell ⟨pn,3,none⟩ (.slice none 0 0)).setCell ⟨pn,4,none⟩ (.slice none 0 0)).setCell ⟨pn,5,none⟩ (.slice none 0 0)).setCell ⟨pn,6,none⟩ (.int .i64 0)).setCell ⟨pf,0,none⟩ (.int .i64 er)).setCell ⟨pf,1,none⟩ (.int .i64 pl)).setCell ⟨pf,2,none⟩ (.int .i64 0)).cell? ⟨pn,0,none⟩=some (.int .i64 0))
 have x1:=((cs_off (by omega) (cs_off (by omega) (cs_off (by omega) (cs_off (by omega) (cs_off (by omega) (cs_off (by omega) (cs_off (by omega) (cs_off (by omega) (cs_same (cs_off (by omega) a1)))))))))):((((((((((W1.setCell ⟨pn,0,none⟩ (.int .i64 0)).setCell ⟨pn,1,none⟩ (.int .i64 0)).setCell ⟨pn,2,none⟩ (.string ⟨#[]⟩)).setCell ⟨pn,3,none⟩ (.slice none 0 0)).setCell ⟨pn,4,none⟩ (.slice none 0 0)).setCell ⟨pn,5,none⟩ (.slice none 0 0)).setCell ⟨pn,6,none⟩ (.int .i64 0)).setCell ⟨pf,0,none⟩ (.int .i64 er)).setCell ⟨pf,1,none⟩ (.int .i64 pl)).setCell ⟨pf,2,none⟩ (.int .i64 0)).cell? ⟨pn,1,none⟩=some (.int .i64 0))
 have x2:=((cs_off (by omega) (cs_off (by omega) (cs_off (by omega) (cs_off (by omega) (cs_off (by omega) (cs_off (by omega) (cs_off (by omega) (cs_same (cs_off (by omega) (cs_off (by omega) a2)))))))))):((((((((((W1.setCell ⟨pn,0,none⟩ (.int .i64 0)).setCell ⟨pn,1,none⟩ (.int .i64 0)).setCell ⟨pn,2,none⟩ (.string ⟨#[]⟩)).setCell ⟨pn,3,none⟩ (.slice none 0 0)).setCell ⟨pn,4,none⟩ (.slice none 0 0)).setCell ⟨pn,5,none⟩ (.slice none 0 0)).setCell ⟨pn,6,none⟩ (.int .i64 0)).setCell ⟨pf,0,none⟩ (.int .i64 er)).setCell ⟨pf,1,none⟩ (.int .i64 pl)).setCell ⟨pf,2,none⟩ (.int .i64 0)).cell? ⟨pn,2,none⟩=some (.string ⟨#[]⟩))
 have x3:=((cs_off (by omega) (cs_off (by omega) (cs_off (by omega) (cs_off (by omega) (cs_off (by omega) (cs_off (by omega) (cs_same (cs_off (by omega) (cs_off (by omega) (cs_off (by omega) a3)))))))))):((((((((((W1.setCell ⟨pn,0,none⟩ (.int .i64 0)).setCell ⟨pn,1,none⟩ (.int .i64 0)).setCell ⟨pn,2,none⟩ (.string ⟨#[]⟩)).setCell ⟨pn,3,none⟩ (.slice none 0 0)).setCell ⟨pn,4,none⟩ (.slice none 0 0)).setCell ⟨pn,5,none⟩ (.slice none 0 0)).setCell ⟨pn,6,none⟩ (.int .i64 0)).setCell ⟨pf,0,none⟩ (.int .i64 er)).setCell ⟨pf,1,none⟩ (.int .i64 pl)).setCell ⟨pf,2,none⟩ (.int .i64 0)).cell? ⟨pn,3,none⟩=some (.slice none 0 0))
 have x4:=((cs_off (by omega) (cs_off (by omega) (cs_off (by omega) (cs_off (by omega) (cs_off (by omega) (cs_same (cs_off (by omega) (cs_off (by omega) (cs_off (by omega) (cs_off (by omega) a4)))))))))):((((((((((W1.setCell ⟨pn,0,none⟩ (.int .i64 0)).setCell ⟨pn,1,none⟩ (.int .i64 0)).setCell ⟨pn,2,none⟩ (.string ⟨#[]⟩)).setCell ⟨pn,3,none⟩ (.slice none 0 0)).setCell ⟨pn,4,none⟩ (.slice none 0 0)).setCell ⟨pn,5,none⟩ (.slice none 0 0)).setCell ⟨pn,6,none⟩ (.int .i64 0)).setCell ⟨pf,0,none⟩ (.int .i64 er)).setCell ⟨pf,1,none⟩ (.int .i64 pl)).setCell ⟨pf,2,none⟩ (.int .i64 0)).cell? ⟨pn,4,none⟩=some (.slice none 0 0))
 have x5:=((cs_off (by omega) (cs_off (by omega) (cs_off (by omega) (cs_off (by omega) (cs_same (cs_off (by omega) (cs_off (by omega) (cs_off (by omega) (cs_off (by omega) (cs_off (by omega) a5)))))))))):((((((((((W1.setCell ⟨pn,0,none⟩ (.int .i64 0)).setCell ⟨pn,1,none⟩ (.int .i64 0)).setCell ⟨pn,2,none⟩ (.string ⟨#[]⟩)).setCell ⟨pn,3,none⟩ (.slice none 0 0)).setCell ⟨pn,4,none⟩ (.slice none 0 0)).setCell ⟨pn,5,none⟩ (.slice none 0 0)).setCell ⟨pn,6,none⟩ (.int .i64 0)).setCell ⟨pf,0,none⟩ (.int .i64 er)).setCell ⟨pf,1,none⟩ (.int .i64 pl)).setCell ⟨pf,2,none⟩ (.int .i64 0)).cell? ⟨pn,5,none⟩=some (.slice none 0 0))
 have x6:=((cs_off (by omega) (cs_off (by omega) (cs_off (by omega) (cs_same (cs_off (by omega) (cs_off (by omega) (cs_off (by omega) (cs_off (by omega) (cs_off (by omega) (cs_off (by omega) a6)))))))))):((((((((((W1.setCell ⟨pn,0,none⟩ (.int .i64 0)).setCell ⟨pn,1,none⟩ (.int .i64 0)).setCell ⟨pn,2,none⟩ (.string ⟨#[]⟩)).setCell ⟨pn,3,none⟩ (.slice none 0 0)).setCell ⟨pn,4,none⟩ (.slice none 0 0)).setCell ⟨pn,5,none⟩ (.slice none 0 0)).setCell ⟨pn,6,none⟩ (.int .i64 0)).setCell ⟨pf,0,none⟩ (.int .i64 er)).setCell ⟨pf,1,none⟩ (.int .i64 pl)).setCell ⟨pf,2,none⟩ (.int .i64 0)).cell? ⟨pn,6,none⟩=some (.int .i64 0))
 have y0:=((cs_off (by omega) (cs_off (by omega) (cs_same (cs_off (by omega) (cs_off (by omega) (cs_off (by omega) (cs_off (by omega) (cs_off (by omega) (cs_off (by omega) (cs_off (by omega) b0)))))))))):((((((((((W1.setCell ⟨pn,0,none⟩ (.int .i64 0)).setCell ⟨pn,1,none⟩ (.int .i64 0)).setCell ⟨pn,2,none⟩ (.string ⟨#[]⟩)).setCell ⟨pn,3,none⟩ (.slice none 0 0)).setCell ⟨pn,4,none⟩ (.slice none 0 0)).setCell ⟨pn,5,none⟩ (.slice none 0 0)).setCell ⟨pn,6,none⟩ (.int .i64 0)).setCell ⟨pf,0,none⟩ (.int .i64 er)).setCell ⟨pf,1,none⟩ (.int .i64 pl)).setCell ⟨pf,2,none⟩ (.int .i64 0)).cell? ⟨pf,0,none⟩=some (.int .i64 er))
 have y1:=((cs_off (by omega) (cs_same (cs_off (by omega) (cs_off (by omega) (cs_off (by omega) (cs_off (by omega) (cs_off (by omega) (cs_off (by omega) (cs_off (by omega) (cs_off (by omega) b1)))))))))):((((((((((W1.setCell ⟨pn,0,none⟩ (.int .i64 0)).setCell ⟨pn,1,none⟩ (.int .i64 0)).setCell ⟨pn,2,none⟩ (.string ⟨#[]⟩)).setCell ⟨pn,3,none⟩ (.slice none 0 0)).setCell ⟨pn,4,none⟩ (.slice none 0 0)).setCell ⟨pn,5,none⟩ (.slice none 0 0)).setCell ⟨pn,6,none⟩ (.int .i64 0)).setCell ⟨pf,0,none⟩ (.int .i64 er)).setCell ⟨pf,1,none⟩ (.int .i64 pl)).setCell ⟨pf,2,none⟩ (.int .i64 0)).cell? ⟨pf,1,none⟩=some (.int .i64 pl))
 have y2:=((cs_same (cs_off (by omega) (cs_off (by omega) (cs_off (by omega) (cs_off (by omega) (cs_off (by omega) (cs_off (by omega) (cs_off (by omega) (cs_off (by omega) (cs_off (by omega) b2)))))))))):((((((((((W1.setCell ⟨pn,0,none⟩ (.int .i64 0)).setCell ⟨pn,1,none⟩ (.int .i64 0)).setCell ⟨pn,2,none⟩ (.string ⟨#[]⟩)).setCell ⟨pn,3,none⟩ (.slice none 0 0)).setCell ⟨pn,4,none⟩ (.slice none 0 0)).setCell ⟨pn,5,none⟩ (.slice none 0 0)).setCell ⟨pn,6,none⟩ (.int .i64 0)).setCell ⟨pf,0,none⟩ (.int .i64 er)).setCell ⟨pf,1,none⟩ (.int .i64 pl)).setCell ⟨pf,2,none⟩ (.int .i64 0)).cell? ⟨pf,2,none⟩=some (.int .i64 0))
 obtain ⟨X,HX⟩:∃ X,((((((((((W1.setCell ⟨pn,0,none⟩ (.int .i64 0)).setCell ⟨pn,1,none⟩ (.int .i64 0)).setCell ⟨pn,2,none⟩ (.string ⟨#[]⟩)).setCell ⟨pn,3,none⟩ (.slice none 0 0)).setCell ⟨pn,4,none⟩ (.slice none 0 0)).setCell ⟨pn,5,none⟩ (.slice none 0 0)).setCell ⟨pn,6,none⟩ (.int .i64 0)).setCell ⟨pf,0,none⟩ (.int .i64 er)).setCell ⟨pf,1,none⟩ (.int .i64 pl)).setCell ⟨pf,2,none⟩ (.int .i64 0))=X:=⟨_,rfl⟩
 rw [HX] at hX x0 x1 x2 x3 x4 x5 x6 y0 y1 y2
 have hlx:pn<X.heap.size∧pf<X.heap.size:=⟨Nat.lt_of_lt_of_le hlt hX.size,Nat.lt_of_lt_of_le hl hX.size⟩
 have hdr:Below X.heap.size X X.drew:=(Below.refl _ _).drew
 have HFIN:Hid (But (fun k=>k=pn∨k=pf) w X.drew∧X.drew.cell? ⟨pn,0,none⟩=some (.int .i64 0)∧X.drew.cell? ⟨pn,1,none⟩=some (.int .i64 0)∧X.drew.cell? ⟨pn,2,none⟩=some (.string ⟨#[]⟩)∧X.drew.cell? ⟨pn,3,none⟩=some (.slice none 0 0)∧X.drew.cell? ⟨pn,4,none⟩=some (.slice none 0 0)∧X.drew.cell? ⟨pn,5,none⟩=some (.slice none 0 0)∧X.drew.cell? ⟨pn,6,none⟩=some (.int .i64 0)∧X.drew.cell? ⟨pf,0,none⟩=some (.int .i64 er)∧X.drew.cell? ⟨pf,1,none⟩=some (.int .i64 pl)∧X.drew.cell? ⟨pf,2,none⟩=some (.int .i64 0)) :=
  ⟨hX.trans (But.of hdr) fun j _ hj=>hj,(hdr.cell (p:=⟨pn,0,none⟩) hlx.1).trans x0,(hdr.cell (p:=⟨pn,1,none⟩) hlx.1).trans x1,(hdr.cell (p:=⟨pn,2,none⟩) hlx.1).trans x2,(hdr.cell (p:=⟨pn,3,none⟩) hlx.1).trans x3,(hdr.cell (p:=⟨pn,4,none⟩) hlx.1).trans x4,(hdr.cell (p:=⟨pn,5,none⟩) hlx.1).trans x5,(hdr.cell (p:=⟨pn,6,none⟩) hlx.1).trans x6,(hdr.cell (p:=⟨pf,0,none⟩) hlx.2).trans y0,(hdr.cell (p:=⟨pf,1,none⟩) hlx.2).trans y1,(hdr.cell (p:=⟨pf,2,none⟩) hlx.2).trans y2⟩
 have HX2:=hide HX
 clear hX x0 x1 x2 x3 x4 x5 x6 y0 y1 y2 hlx hdr HX
 go_region_with (fail)
 all_goals
  rw [HX2.out]
  exact ⟨rfl,_,rfl,_,by simp [results,Try.results19,go_sem],rfl,rfl,HFIN.out⟩
set_option maxHeartbeats 2000000 in
theorem idle19 (pn pf:Nat) (w:World) :
  CallsD Try.prog 19 #[.pointer (some ⟨pn,0,none⟩),.pointer (some ⟨pf,0,none⟩)] .returning w fun e u' w'=>e=.returned (.tuple #[])∧u'=.returning∧Below w.heap.size w w':=by
 have HB:=hide (one_alloc w (.cells #[.int .i64 0,.int .i64 0,.int .i64 0] 28))
 refine callsD_of_wpS Try.func19 rfl fun c₀ cs hu=>?_
 apply wpS_seq
 apply wpS_region
 simp [wpOpsS,go_sem,recoverD,hu,Try.ntmps19,Exit.thenS,assert28_no]
 apply wpS_seq
 apply wpS_region
 simp [wpOpsS,go_sem,Exit.thenS]
 refine wpS_cond (t:=false) (by simp [Act.eval]) ?_
 simp only [Bool.false_eq_true,if_false]
 refine wpS_of_wp (wp_skip ?_)
 cases c₀
 simp only at hu
 subst hu
 exact ⟨rfl,_,rfl,_,by simp [results,Try.results19,go_sem],rfl,rfl,HB.out⟩
theorem mf19 (fn:Fn) (first cap:Array Value) (w:World):(Instr.makeFunc fn first cap).run Try.prog w=.ok (.func fn first cap) w:=rfl
theorem IntsIn.off {w w':World} {p q:Nat} {a:Option Addr} {f:Nat→Nat} {lo hi:Nat} (h:IntsIn w p a f lo hi) (hb:But (·=q) w w') (hn:∀ b off,a=some ⟨b,off,none⟩→b≠q):IntsIn w' p a f lo hi:=fun j h1 h2=>by
 obtain ⟨b,off,ha,hl,hp,hc⟩:=h j h1 h2
 exact ⟨b,off,ha,Nat.lt_of_lt_of_le hl hb.size,hp,(hb.cell (p:=⟨b,off+j,none⟩) hl (hn b off ha)).trans hc⟩
theorem Rd.off {n:Nat} {w0 w w':World} {p q:Nat} {g:Gr} {R:Raw} {ws:List Wo} {A:Ra} {i:Nat} {e:Int} (h:Rd n w0 w p g R ws A i e) (hb:But (·=q) w w') (h0:w0.heap.size≤q) (hp:p≠q) (hr:∀ x b off,(x=A.xc∨x=A.xt∨x=A.xa∨x=A.xb)→x=some (⟨b,off,none⟩:Addr)→b≠q):Rd n w0 w' p g R ws A i e:=by
 have hl:=h.sp.sn.hp2
 have c:∀ o,w'.cell? ⟨p,o,none⟩=w.cell? ⟨p,o,none⟩:=fun o=>hb.cell (p:=⟨p,o,none⟩) hl hp
 exact ⟨⟨h.sp.sn.turn (h.sp.sn.old.trans (hb.below h.sp.sn.old.size fun k hk=>by omega)) (Nat.lt_of_lt_of_le hl hb.size) (fun o _=>c o),(c 15).trans h.sp.c15,(c 16).trans h.sp.c16,(c 17).trans h.sp.c17,(c 18).trans h.sp.c18,h.sp.hc.off hb fun b off e=>hr _ b off (Or.inl rfl) e,h.sp.ht.off hb fun b off e=>hr _ b off (Or.inr (Or.inl rfl)) e,h.sp.ha.off hb fun b off e=>hr _ b off (Or.inr (Or.inr (Or.inl rfl))) e,h.sp.hb.off hb fun b off e=>hr _ b off (Or.inr (Or.inr (Or.inr rfl))) e⟩,(c 19).trans h.c19,(c 20).trans h.c20,(frozen_block (hb.block hl hp) 19).trans h.fz,h.hi,h.below⟩
abbrev nilV:Value:=.agg #[.int .i64 0,.int .i64 0,.string ⟨#[]⟩,.slice none 0 0,.slice none 0 0,.slice none 0 0,.int .i64 0]
def GvP (n:Nat) (w0 w:World) (res:Rs Nd) (en:Ending) (w':World):Prop :=
 Below w.heap.size w w'∧match res with
|.ok x=>∃ v m,en=.returned (.tuple #[v,.agg #[.int .i64 0,.int .i64 0,.int .i64 0]])∧Tr (n+1) w0.heap.size m w.heap.size w'.heap.size w' x v
|.bad er pl=>en=.returned (.tuple #[nilV,.agg #[.int .i64 er,.int .i64 pl,.int .i64 0]])
|.stuck=>False
set_option maxHeartbeats 8000000 in
theorem parse9 {n:Nat} {w0 w:World} {g:Gr} {R:Raw} {ws:List Wo} {e:Int} (ho:Below w0.heap.size w0 w) (sv:StrsIn w0 R.av g.verbs) (sa:StrsIn w0 R.aa g.adverbs) (sb:StrsIn w0 R.ab g.behind) (wo:WoIn (n+1) w0 R.aw ws) :
  Calls Try.prog 9 #[gV g R,.slice R.aw ws.length R.cw,.int .i64 e] w fun en w'=>GvP n w0 w (parseS g e ws) en w':=by
 have hL:=wo.1
 have hmf:=mf19
 obtain ⟨W3,hW3⟩:∃ W3,((w.alloc (.cells #[.slice R.av g.verbs.length R.cv,.slice R.aa g.adverbs.length R.ca,.slice R.ab g.behind.length R.cb,.string g.outer,.string g.power,.string g.opn,.string g.cls,.string g.left,.string g.right,.string R.mi,.string R.qu,.bool g.trains,.bool g.lone,.bool g.square] 24)).alloc (.cells #[.int .i64 0,.int .i64 0,.string ⟨#[]⟩,.slice none 0 0,.slice none 0 0,.slice none 0 0,.int .i64 0] 39)).alloc (.cells #[.int .i64 0,.int .i64 0,.int .i64 0] 28)=W3:=⟨_,rfl⟩
 have b3:Below w.heap.size w W3:=by rw [←hW3];exact (two_allocs _ _ _).trans ((one_alloc _ _).mono (by simp;omega))
 have s3:W3.heap.size=w.heap.size+3:=by rw [←hW3];simp
 have HM:=hide (measure20 (g:=g) (R:=R) (ws:=ws) (ho.trans (b3.mono ho.size)) sv sa sb wo)
 have HPN:Hid (Rv W3 (w.heap.size+1)):=by
  have h:=Rv.new (w.alloc (.cells #[.slice R.av g.verbs.length R.cv,.slice R.aa g.adverbs.length R.ca,.slice R.ab g.behind.length R.cb,.string g.outer,.string g.power,.string g.opn,.string g.cls,.string g.left,.string g.right,.string R.mi,.string R.qu,.bool g.trains,.bool g.lone,.bool g.square] 24))
  have hs:(w.alloc (.cells #[.slice R.av g.verbs.length R.cv,.slice R.aa g.adverbs.length R.ca,.slice R.ab g.behind.length R.cb,.string g.outer,.string g.power,.string g.opn,.string g.cls,.string g.left,.string g.right,.string R.mi,.string R.qu,.bool g.trains,.bool g.lone,.bool g.square] 24)).heap.size=w.heap.size+1:=by simp
  rw [hs] at h
  rw [←hW3]
  exact h.block (one_alloc _ _).size ((one_alloc _ _).block _ h.lt)
 have HPF:Hid ((∀ o,o<3→∃ v,W3.cell? ⟨w.heap.size+1+1,o,none⟩=some v)∧∀ o,W3.frozen? ⟨w.heap.size+1+1,o,none⟩=false):=by
  have hs:((w.alloc (.cells #[.slice R.av g.verbs.length R.cv,.slice R.aa g.adverbs.length R.ca,.slice R.ab g.behind.length R.cb,.string g.outer,.string g.power,.string g.opn,.string g.cls,.string g.left,.string g.right,.string R.mi,.string R.qu,.bool g.trains,.bool g.lone,.bool g.square] 24)).alloc (.cells #[.int .i64 0,.int .i64 0,.string ⟨#[]⟩,.slice none 0 0,.slice none 0 0,.slice none 0 0,.int .i64 0] 39)).heap.size=w.heap.size+1+1:=by simp
  rw [←hW3,← hs]
  refine ⟨fun o ho=>?_,fun o=>frozen_new _ _ _ _⟩
  have:o=0∨o=1∨o=2:=by omega
  rcases this with rfl|rfl|rfl<;>exact ⟨_,cell_new0 _ #[.int .i64 0,.int .i64 0,.int .i64 0] 28 _ _ rfl⟩
 have KG:Hid (∀ k v,(#[.slice R.av g.verbs.length R.cv,.slice R.aa g.adverbs.length R.ca,.slice R.ab g.behind.length R.cb,.string g.outer,.string g.power,.string g.opn,.string g.cls,.string g.left,.string g.right,.string R.mi,.string R.qu,.bool g.trains,.bool g.lone,.bool g.square]:Array Value)[k]?=some v→W3.cell? ⟨w.heap.size,k,none⟩=some v):=fun k v hv=>by
  rw [←hW3]
  exact (((two_allocs _ _ _).cell (p:=⟨w.heap.size,k,none⟩) (by simp)).trans (cell_new0 w #[.slice R.av g.verbs.length R.cv,.slice R.aa g.adverbs.length R.ca,.slice R.ab g.behind.length R.cb,.string g.outer,.string g.power,.string g.opn,.string g.cls,.string g.left,.string g.right,.string R.mi,.string R.qu,.bool g.trains,.bool g.lone,.bool g.square] 24 k v hv))
 have HB3:=hide b3
 have HS3:=hide s3
 have HO:=hide ho
 have HWO:=hide wo
 have HSV:=hide (And.intro sv (And.intro sa sb))
 obtain ⟨RES,hRES⟩:∃ RES,parseS g e ws=RES:=⟨_,rfl⟩
 have HRES:=hide hRES
 rw [hRES]
 obtain ⟨L,hLL⟩:∃ L,ws.length=L:=⟨_,rfl⟩
 have HLL:=hide hLL
 rw [hLL] at HM hL ⊢
 clear b3 s3 ho wo sv sa sb hRES hLL
 go_enter_defers Try.func9,Try.ntmps9
 go_upto_region 2 with fail
 clear hW3
 have c0:=KG.out 0 _ rfl
 have c1:=KG.out 1 _ rfl
 have c2:=KG.out 2 _ rfl
 have c3:=KG.out 3 _ rfl
 have c4:=KG.out 4 _ rfl
 have c5:=KG.out 5 _ rfl
 have c6:=KG.out 6 _ rfl
 have c7:=KG.out 7 _ rfl
 have c8:=KG.out 8 _ rfl
 have c9:=KG.out 9 _ rfl
 have c10:=KG.out 10 _ rfl
 have c11:=KG.out 11 _ rfl
 have c12:=KG.out 12 _ rfl
 have c13:=KG.out 13 _ rfl
 clear KG
 go_wp2_with fail
 refine HM.out.mono ?_
 rintro en w1 ⟨bc,bt,ba,bb,rfl,hb1,hlt,hge,hints⟩
 rw [HLL.out] at hints ⊢
 have hx1:w.heap.size+3≤w1.heap.size:=by have:=hb1.size;have:=HS3.out;omega
 obtain ⟨WZ,hWZ⟩:∃ WZ,w1.alloc (.cells #[.slice none 0 0,.slice none 0 0,.slice none 0 0,.string ⟨#[]⟩,.string ⟨#[]⟩,.string ⟨#[]⟩,.string ⟨#[]⟩,.string ⟨#[]⟩,.string ⟨#[]⟩,.string ⟨#[]⟩,.string ⟨#[]⟩,.bool false,.bool false,.bool false,.slice none 0 0,.slice none 0 0,.slice none 0 0,.slice none 0 0,.slice none 0 0,.int .i64 0,.int .i64 0] 60)=WZ:=⟨_,rfl⟩
 have HTH:Hid (WZ.there w1.heap.size 0 21):=fun j hj=>by
  obtain ⟨v,hv⟩:∃ v,(#[.slice none 0 0,.slice none 0 0,.slice none 0 0,.string ⟨#[]⟩,.string ⟨#[]⟩,.string ⟨#[]⟩,.string ⟨#[]⟩,.string ⟨#[]⟩,.string ⟨#[]⟩,.string ⟨#[]⟩,.string ⟨#[]⟩,.bool false,.bool false,.bool false,.slice none 0 0,.slice none 0 0,.slice none 0 0,.slice none 0 0,.slice none 0 0,.int .i64 0,.int .i64 0]:Array Value)[j]?=some v:=⟨_,Array.getElem?_eq_getElem (by simpa using hj)⟩
  rw [←hWZ]
  exact ⟨by rw [Nat.zero_add,cell_new0 w1 #[.slice none 0 0,.slice none 0 0,.slice none 0 0,.string ⟨#[]⟩,.string ⟨#[]⟩,.string ⟨#[]⟩,.string ⟨#[]⟩,.string ⟨#[]⟩,.string ⟨#[]⟩,.string ⟨#[]⟩,.string ⟨#[]⟩,.bool false,.bool false,.bool false,.slice none 0 0,.slice none 0 0,.slice none 0 0,.slice none 0 0,.slice none 0 0,.int .i64 0,.int .i64 0] 60 j v hv];rfl,frozen_new _ _ _ _⟩
 obtain ⟨W4,hW4⟩:∃ W4,WZ.setCells w1.heap.size 0 [.slice R.av g.verbs.length R.cv,.slice R.aa g.adverbs.length R.ca,.slice R.ab g.behind.length R.cb,.string g.outer,.string g.power,.string g.opn,.string g.cls,.string g.left,.string g.right,.string R.mi,.string R.qu,.bool g.trains,.bool g.lone,.bool g.square,.slice R.aw L R.cw,.slice (some ⟨bc,0,none⟩) L L,.slice (some ⟨bt,0,none⟩) (L+1) (L+1),.slice (some ⟨ba,0,none⟩) (L+1) (L+1),.slice (some ⟨bb,0,none⟩) (L+1) (L+1),.int .i64 0,.int .i64 e]=W4:=⟨_,rfl⟩
 have bz:Below w1.heap.size w1 WZ:=by rw [←hWZ];exact one_alloc _ _
 have sz:WZ.heap.size=w1.heap.size+1:=by rw [←hWZ];simp
 have bq:=setCells_but WZ w1.heap.size 0 [.slice R.av g.verbs.length R.cv,.slice R.aa g.adverbs.length R.ca,.slice R.ab g.behind.length R.cb,.string g.outer,.string g.power,.string g.opn,.string g.cls,.string g.left,.string g.right,.string R.mi,.string R.qu,.bool g.trains,.bool g.lone,.bool g.square,.slice R.aw L R.cw,.slice (some ⟨bc,0,none⟩) L L,.slice (some ⟨bt,0,none⟩) (L+1) (L+1),.slice (some ⟨ba,0,none⟩) (L+1) (L+1),.slice (some ⟨bb,0,none⟩) (L+1) (L+1),.int .i64 0,.int .i64 e]
 rw [hW4] at bq
 have b4:Below w1.heap.size w1 W4:=bz.trans (bq.below (by omega) fun k hk=>by omega)
 have s4:w1.heap.size+1≤W4.heap.size:=by have:=bq.size;omega
 have hrg:=World.rangeAt_setCells_same WZ w1.heap.size 0 [.slice R.av g.verbs.length R.cv,.slice R.aa g.adverbs.length R.ca,.slice R.ab g.behind.length R.cb,.string g.outer,.string g.power,.string g.opn,.string g.cls,.string g.left,.string g.right,.string R.mi,.string R.qu,.bool g.trains,.bool g.lone,.bool g.square,.slice R.aw L R.cw,.slice (some ⟨bc,0,none⟩) L L,.slice (some ⟨bt,0,none⟩) (L+1) (L+1),.slice (some ⟨ba,0,none⟩) (L+1) (L+1),.slice (some ⟨bb,0,none⟩) (L+1) (L+1),.int .i64 0,.int .i64 e] HTH.out
 rw [hW4] at hrg
 have fz4:W4.frozen? ⟨w1.heap.size,19,none⟩=false:=by rw [←hW4];exact setCells_frozen _ _ _ _ _ (by rw [←hWZ];exact frozen_new _ _ _ _)
 have hb4:Below W3.heap.size W3 W4:=hb1.trans (b4.mono hb1.size)
 have hbw:Below w.heap.size w W4:=HB3.out.trans (hb4.mono HB3.out.size)
 have HRD:Hid (Rd (n+1) w0 W4 w1.heap.size g R ws (raOf bc bt ba bb L) 0 e):=by
  have cc:∀ k v,(#[.slice R.av g.verbs.length R.cv,.slice R.aa g.adverbs.length R.ca,.slice R.ab g.behind.length R.cb,.string g.outer,.string g.power,.string g.opn,.string g.cls,.string g.left,.string g.right,.string R.mi,.string R.qu,.bool g.trains,.bool g.lone,.bool g.square,.slice R.aw L R.cw,.slice (some ⟨bc,0,none⟩) L L,.slice (some ⟨bt,0,none⟩) (L+1) (L+1),.slice (some ⟨ba,0,none⟩) (L+1) (L+1),.slice (some ⟨bb,0,none⟩) (L+1) (L+1),.int .i64 0,.int .i64 e]:Array Value)[k]?=some v→W4.cell? ⟨w1.heap.size,k,none⟩=some v:=fun k v hv=>by
   have:=hrg k v (by simpa using hv)
   rw [Nat.zero_add] at this
   exact this
  obtain ⟨i1,i2,i3,i4⟩:=hints w1.heap.size (Nat.le_refl _)
  have ho:=HO.out.size
  refine ⟨⟨⟨HO.out.trans (hbw.mono HO.out.size),by omega,by omega,cc 0 _ rfl,cc 1 _ rfl,cc 2 _ rfl,cc 3 _ rfl,cc 4 _ rfl,cc 5 _ rfl,cc 6 _ rfl,cc 7 _ rfl,cc 8 _ rfl,cc 11 _ rfl,cc 12 _ rfl,cc 13 _ rfl,by rw [HLL.out];exact cc 14 _ rfl,HSV.out.1,HSV.out.2.1,HSV.out.2.2,HWO.out⟩,?_,?_,?_,?_,?_,?_,?_,?_⟩,cc 19 _ rfl,cc 20 _ rfl,?_,Nat.zero_le _,?_⟩
  ·rw [HLL.out];exact cc 15 _ rfl
  ·rw [HLL.out];exact cc 16 _ rfl
  ·rw [HLL.out];exact cc 17 _ rfl
  ·rw [HLL.out];exact cc 18 _ rfl
  ·rw [HLL.out];exact i1.next b4
  ·rw [HLL.out];exact i2.next b4
  ·rw [HLL.out];exact i3.next b4
  ·rw [HLL.out];exact i4.next b4
  ·exact fz4
  ·intro x b off hx hxe
   rcases hx with rfl|rfl|rfl|rfl<;>cases hxe
   ·exact hlt.1
   ·exact hlt.2.1
   ·exact hlt.2.2.1
   ·exact hlt.2.2.2
 obtain ⟨RE,hRE⟩:∃ RE,(EF g e 24).1 false (ws.drop 0)=RE:=⟨_,rfl⟩
 have HPS:=hide (show RES=RE.bind fun q=>match q.2.1 with
 |[]=>.ok q.1
 |x::r=>.bad 2 x.pos from by rw [←HRES.out,← hRE,List.drop_zero];rfl)
 have HCE:=hide ((all_deep 24 (Nat.le_refl _)).1 W4 0 0 false (false,false) HRD.out (by simp))
 rw [hRE] at HCE
 have HPN4:=hide (HPN.out.block (hb4.size) (hb4.block _ HPN.out.lt))
 have HPF4:Hid ((∀ o,o<3→∃ v,W4.cell? ⟨w.heap.size+1+1,o,none⟩=some v)∧∀ o,W4.frozen? ⟨w.heap.size+1+1,o,none⟩=false):=by
  have h3:=HS3.out
  refine ⟨fun o ho=>?_,fun o=>(hb4.frozen (p:=⟨w.heap.size+1+1,o,none⟩) (by show w.heap.size+1+1<_;omega)).trans (HPF.out.2 o)⟩
  obtain ⟨v,hv⟩:=HPF.out.1 o ho
  exact ⟨v,(hb4.cell (p:=⟨w.heap.size+1+1,o,none⟩) (by show w.heap.size+1+1<_;omega)).trans hv⟩
 have HGE:=hide hge
 have HBW:=hide hbw
 have HS4:=hide s4
 have HX1:=hide hx1
 have HW4:=hide hW4
 clear hge hW4 hrg bq bz sz fz4 hRE hb1 hlt hints HM c0 c1 c2 c3 c4 c5 c6 c7 c8 c9 c10 c11 c12 c13 b4 s4 hb4 hbw hx1 HPN HPF HRD
 generalize hP:w1.heap.size=P at *
 have HP:=hide hP
 have HW5:Hid (WZ.setCells P 0 (#[.slice R.av g.verbs.length R.cv,.slice R.aa g.adverbs.length R.ca,.slice R.ab g.behind.length R.cb,.string g.outer,.string g.power,.string g.opn,.string g.cls,.string g.left,.string g.right,.string R.mi,.string R.qu,.bool g.trains,.bool g.lone,.bool g.square,.slice R.aw L R.cw,.slice (some ⟨bc,0,none⟩) L L,.slice (some ⟨bt,0,none⟩) (L+1) (L+1),.slice (some ⟨ba,0,none⟩) (L+1) (L+1),.slice (some ⟨bb,0,none⟩) (L+1) (L+1),.int .i64 0,.int .i64 e]:Array Value).toList=W4):=HW4.out
 clear HW4
 go_wp2_with (first|(refine wpList_store_mid rfl 60 (.tmp 8) (.tmp 15) rfl P 0 #[.slice R.av g.verbs.length R.cv,.slice R.aa g.adverbs.length R.ca,.slice R.ab g.behind.length R.cb,.string g.outer,.string g.power,.string g.opn,.string g.cls,.string g.left,.string g.right,.string R.mi,.string R.qu,.bool g.trains,.bool g.lone,.bool g.square,.slice R.aw L R.cw,.slice (some ⟨bc,0,none⟩) L L,.slice (some ⟨bt,0,none⟩) (L+1) (L+1),.slice (some ⟨ba,0,none⟩) (L+1) (L+1),.slice (some ⟨bb,0,none⟩) (L+1) (L+1),.int .i64 0,.int .i64 e] rfl rfl HTH.out (by kernel_rfl) (by simp [Value.oneCell']) ?_;rw [HW5.out]))
 clear hP
 go_wp2_with fail
 refine HCE.out.mono ?_
 rintro en w5 ⟨hb5,hE⟩
 have HB5:=hide hb5
 have HE5:=hide hE
 clear hb5 hE HCE
 cases RE with
|stuck=>exact HE5.out.elim
|bad er pl =>
  obtain rfl:en=faultP er pl:=HE5.out
  obtain rfl:RES=.bad er pl:=HPS.out
  have h3:=HS3.out
  have h4:=HS4.out
  have hx:=HX1.out
  have hcat:=catch19 (w.heap.size+1) (w.heap.size+1+1) er pl w5 (HPN4.out.but HB5.out (fun h=>by rcases h with h|⟨h,-⟩;omega;cases h)) (fun o ho=>by
   obtain ⟨v,hv⟩:=HPF4.out.1 o ho
   exact ⟨v,(HB5.out.cell (p:=⟨w.heap.size+1+1,o,none⟩) (by show w.heap.size+1+1<_;omega) (fun h=>by rcases h with h|⟨h,-⟩;(have:w.heap.size+1+1=P:=h;omega);cases h)).trans hv⟩) (fun o=>(frozen_block (HB5.out.block (by omega) (fun h=>by rcases h with h|⟨h,-⟩;omega;cases h)) o).trans (HPF4.out.2 o)) (by have:=HB5.out.size;omega) (by omega)
  have HCAT:=hide hcat
  clear hcat HE5 HPS h3 h4 hx
  go_wp2
  refine leaves_cons (f:=19) (args:=#[.pointer (some ⟨w.heap.size+1,0,none⟩),.pointer (some ⟨w.heap.size+1+1,0,none⟩)]) (by simp) (by simp [go_sem]) ?_
  refine HCAT.out.mono ?_
  rintro en u w6 ⟨rfl,rfl,hb6,x0,x1,x2,x3,x4,x5,x6,y0,y1,y2⟩
  have HG:Hid (GvP n w0 w (.bad er pl) (.returned (.tuple #[nilV,.agg #[.int .i64 er,.int .i64 pl,.int .i64 0]])) w6) :=
   ⟨(HBW.out.trans (HB5.out.below HBW.out.size fun k h=>by rcases h with h|⟨h,-⟩;(have:=HX1.out;omega);cases h)).trans (hb6.below (by have:=HBW.out.size;have:=HB5.out.size;omega) fun k h=>by omega),rfl⟩
  clear hb6 HCAT HPN4 HPF4
  simp [Leaves,settle,results,Try.results9,go_sem,x0,x1,x2,x3,x4,x5,x6,y0,y1,y2]
  exact HG.out
|ok r =>
  obtain ⟨v,m,i,rfl,hdr,hrd,htr,-⟩:=HE5.out
  obtain ⟨m',rfl,a1,k1,a2,k2,ak,kk,rfl,-⟩:=htr.form
  have HTR:=hide htr
  have HDR:=hide hdr
  have HRD:=hide hrd
  have c19:=hrd.c19
  have hil:=hrd.hi
  rw [HLL.out] at hil
  have h3:=HS3.out
  have h4:=HS4.out
  have hx:=HX1.out
  have h5:=HB5.out.size
  have hTT:∀ k,k<P→¬ TT false P 0 k:=fun k hk h=>by
   rcases h with h|⟨h,-⟩
   ·omega
   ·cases h
  have hpn5:=HPN4.out.but HB5.out (hTT _ (by omega))
  have HTH5:Hid (w5.there (w.heap.size+1) 0 7):=fun j hj=>by
   obtain ⟨v,hv⟩:=hpn5.c j hj
   rw [Nat.zero_add]
   exact ⟨by rw [hv];rfl,hpn5.f j⟩
  obtain ⟨W6,hW6⟩:∃ W6,w5.setCells (w.heap.size+1) 0 [.int .i64 r.1.kind,.int .i64 r.1.op,.string r.1.name,.slice a1 r.1.lit.shape.length k1,.slice a2 r.1.lit.cells.length k2,.slice ak r.1.kids.length kk,.int .i64 r.1.pos]=W6:=⟨_,rfl⟩
  have HW6:Hid (w5.setCells (w.heap.size+1) 0 (#[.int .i64 r.1.kind,.int .i64 r.1.op,.string r.1.name,.slice a1 r.1.lit.shape.length k1,.slice a2 r.1.lit.cells.length k2,.slice ak r.1.kids.length kk,.int .i64 r.1.pos]:Array Value).toList=W6):=hW6
  have b6:=setCells_but w5 (w.heap.size+1) 0 [.int .i64 r.1.kind,.int .i64 r.1.op,.string r.1.name,.slice a1 r.1.lit.shape.length k1,.slice a2 r.1.lit.cells.length k2,.slice ak r.1.kids.length kk,.int .i64 r.1.pos]
  have hrg:=World.rangeAt_setCells_same w5 (w.heap.size+1) 0 [.int .i64 r.1.kind,.int .i64 r.1.op,.string r.1.name,.slice a1 r.1.lit.shape.length k1,.slice a2 r.1.lit.cells.length k2,.slice ak r.1.kids.length kk,.int .i64 r.1.pos] HTH5.out
  have hfz:=fun a h=>setCells_frozen w5 (w.heap.size+1) 0 [.int .i64 r.1.kind,.int .i64 r.1.op,.string r.1.name,.slice a1 r.1.lit.shape.length k1,.slice a2 r.1.lit.cells.length k2,.slice ak r.1.kids.length kk,.int .i64 r.1.pos] a h
  rw [hW6] at b6 hrg
  rw [hW6] at hfz
  have HRG6:=hide hrg
  have hne5:P≠w.heap.size+1:=by omega
  have hrd6:=hrd.off b6 (by have:=HO.out.size;omega) hne5 (fun x b off hx hxe=>by
   have:=HGE.out
   rcases hx with rfl|rfl|rfl|rfl<;>cases hxe<;>omega)
  have c19:=hrd6.c19
  have hil:=hrd.hi
  rw [HLL.out] at hil
  have HRD6:=hide hrd6
  have HTR6:Hid (Tr (n+1) w0.heap.size (m'+1) W4.heap.size w5.heap.size W6 r.1 (.agg #[.int .i64 r.1.kind,.int .i64 r.1.op,.string r.1.name,.slice a1 r.1.lit.shape.length k1,.slice a2 r.1.lit.cells.length k2,.slice ak r.1.kids.length kk,.int .i64 r.1.pos])):=htr.keep (Kp.but b6 (by have:=HO.out.size;omega) (Nat.le_refl _) fun k hk=>⟨by have:=HO.out.size;omega,Or.inl (by omega)⟩)
  have hTH6:W6.there (w.heap.size+1) 0 7:=fun j hj=>by
   obtain ⟨v,hv⟩:∃ v,([.int .i64 r.1.kind,.int .i64 r.1.op,.string r.1.name,.slice a1 r.1.lit.shape.length k1,.slice a2 r.1.lit.cells.length k2,.slice ak r.1.kids.length kk,.int .i64 r.1.pos]:List Value)[j]?=some v:=⟨_,List.getElem?_eq_getElem (by simpa using hj)⟩
   exact ⟨by rw [HRG6.out j v hv];rfl,hfz _ (by rw [Nat.zero_add];exact hpn5.f j)⟩
  have HB6:=hide b6
  have HPF6:Hid ((∀ o,o<3→∃ v,W6.cell? ⟨w.heap.size+1+1,o,none⟩=some v)∧∀ o,W6.frozen? ⟨w.heap.size+1+1,o,none⟩=false):=by
   have hk5:w5.heap[w.heap.size+1+1]?=W4.heap[w.heap.size+1+1]?:=HB5.out.block (by omega) (hTT _ (by omega))
   have hk6:W6.heap[w.heap.size+1+1]?=w5.heap[w.heap.size+1+1]?:=b6.block (by omega) (by omega)
   refine ⟨fun o ho=>?_,fun o=>((frozen_block hk6 o).trans (frozen_block hk5 o)).trans (HPF4.out.2 o)⟩
   obtain ⟨v,hv⟩:=HPF4.out.1 o ho
   exact ⟨v,((World.cell?_of_block (w:=w5) (a:=⟨w.heap.size+1+1,o,none⟩) hk6).trans (World.cell?_of_block (w:=W4) (a:=⟨w.heap.size+1+1,o,none⟩) hk5)).trans hv⟩
  have HTH6:=hide hTH6
  have HBW6:Hid (Below w.heap.size w W6):=(HBW.out.trans (HB5.out.below HBW.out.size fun k h=>by rcases h with h|⟨h,-⟩;omega;cases h)).trans (b6.below (by have:=HBW.out.size;omega) fun k h=>by omega)
  have HS6:Hid (P<W6.heap.size∧W4.heap.size≤w5.heap.size∧w5.heap.size≤W6.heap.size∧w.heap.size+3≤P):=⟨by have:=b6.size;omega,h5,b6.size,hx⟩
  have HRV6:Hid (Rv W6 (w.heap.size+1)):=⟨by have:=b6.size;omega,fun o ho=>by
   obtain ⟨h1,h2⟩:=HTH6.out o ho
   rw [Nat.zero_add] at h1
   exact Option.isSome_iff_exists.1 h1,fun o=>hfz _ (hpn5.f o)⟩
  clear hrg hfz hW6 b6 hrd hrd6 htr hTH6 hpn5 h3 h4 hx h5 hTT hne5 HTR HRD HPN4 HPF4 HB5 HBW HE5 HTH HW5
  by_cases hlt:i<L
  ·have HPL:=hide (refuse22 HRD6.out 2)
   have hres:RES=.bad 2 (placeR e (ws.drop i)):=by
    rw [HPS.out]
    show (match r.2.1 with
    |[]=>Rs.ok r.1
    |x::_=>.bad 2 x.pos)=_
    rw [HDR.out,drop_at (by rw [HLL.out];exact hlt)]
    rfl
   obtain rfl:=hres
   obtain ⟨pl,hpl⟩:∃ pl,placeR e (ws.drop i)=pl:=⟨_,rfl⟩
   have HPE:=hide hpl
   rw [hpl] at HPL
   clear hpl
   go_wp2_with (first|(refine wpList_store_mid rfl 39 (.tmp 6) (.tmp 16) rfl (w.heap.size+1) 0 #[.int .i64 r.1.kind,.int .i64 r.1.op,.string r.1.name,.slice a1 r.1.lit.shape.length k1,.slice a2 r.1.lit.cells.length k2,.slice ak r.1.kids.length kk,.int .i64 r.1.pos] rfl rfl HTH5.out (by kernel_rfl) (by simp [Value.oneCell']) ?_;rw [HW6.out]))
   refine HPL.out.mono ?_
   rintro en w7 ⟨rfl,hb7⟩
   have h6:=HS6.out
   have hcat:=catch19 (w.heap.size+1) (w.heap.size+1+1) 2 pl w7 (HRV6.out.block hb7.size (hb7.block _ HRV6.out.lt)) (fun o ho=>by
    obtain ⟨v,hv⟩:=HPF6.out.1 o ho
    exact ⟨v,(hb7.cell (p:=⟨w.heap.size+1+1,o,none⟩) (by show w.heap.size+1+1<_;omega)).trans hv⟩) (fun o=>(hb7.frozen (p:=⟨w.heap.size+1+1,o,none⟩) (by show w.heap.size+1+1<_;omega)).trans (HPF6.out.2 o)) (by have:=hb7.size;omega) (by omega)
   have HCAT:=hide hcat
   have HB7:=hide hb7
   clear hcat hb7 h6 c19 hil hlt
   go_wp2
   refine leaves_cons (f:=19) (args:=#[.pointer (some ⟨w.heap.size+1,0,none⟩),.pointer (some ⟨w.heap.size+1+1,0,none⟩)]) (by simp) (by simp [go_sem]) ?_
   refine HCAT.out.mono ?_
   rintro en u w8 ⟨rfl,rfl,hb8,x0,x1,x2,x3,x4,x5,x6,y0,y1,y2⟩
   have HG:Hid (GvP n w0 w (.bad 2 pl) (.returned (.tuple #[nilV,.agg #[.int .i64 2,.int .i64 pl,.int .i64 0]])) w8) :=
    ⟨(HBW6.out.trans (HB7.out.mono HBW6.out.size)).trans (hb8.below (by have:=HBW6.out.size;have:=HB7.out.size;omega) fun k h=>by omega),rfl⟩
   clear hb8 HCAT
   simp [Leaves,settle,results,Try.results9,go_sem,x0,x1,x2,x3,x4,x5,x6,y0,y1,y2]
   rw [HPE.out]
   exact HG.out
  ·have hres:RES=.ok r.1:=by
    rw [HPS.out]
    show (match r.2.1 with
    |[]=>Rs.ok r.1
    |x::_=>.bad 2 x.pos)=_
    rw [HDR.out,drop_end (by rw [HLL.out];exact hlt)]
   obtain rfl:=hres
   have h6:=HS6.out
   have q0:=HRG6.out 0 _ rfl
   have q1:=HRG6.out 1 _ rfl
   have q2:=HRG6.out 2 _ rfl
   have q3:=HRG6.out 3 _ rfl
   have q4:=HRG6.out 4 _ rfl
   have q5:=HRG6.out 5 _ rfl
   have q6:=HRG6.out 6 _ rfl
   rw [Nat.zero_add] at q0 q1 q2 q3 q4 q5 q6
   obtain ⟨W8,hW8⟩:∃ W8,W6.setCells (w.heap.size+1) 0 [.int .i64 r.1.kind,.int .i64 r.1.op,.string r.1.name,.slice a1 r.1.lit.shape.length k1,.slice a2 r.1.lit.cells.length k2,.slice ak r.1.kids.length kk,.int .i64 r.1.pos]=W8:=⟨_,rfl⟩
   have HW8:Hid (W6.setCells (w.heap.size+1) 0 (#[.int .i64 r.1.kind,.int .i64 r.1.op,.string r.1.name,.slice a1 r.1.lit.shape.length k1,.slice a2 r.1.lit.cells.length k2,.slice ak r.1.kids.length kk,.int .i64 r.1.pos]:Array Value).toList=W8):=hW8
   have b8:=setCells_but W6 (w.heap.size+1) 0 [.int .i64 r.1.kind,.int .i64 r.1.op,.string r.1.name,.slice a1 r.1.lit.shape.length k1,.slice a2 r.1.lit.cells.length k2,.slice ak r.1.kids.length kk,.int .i64 r.1.pos]
   have hrg8:=World.rangeAt_setCells_same W6 (w.heap.size+1) 0 [.int .i64 r.1.kind,.int .i64 r.1.op,.string r.1.name,.slice a1 r.1.lit.shape.length k1,.slice a2 r.1.lit.cells.length k2,.slice ak r.1.kids.length kk,.int .i64 r.1.pos] HTH6.out
   rw [hW8] at b8 hrg8
   have hk8:W8.heap[w.heap.size+1+1]?=W6.heap[w.heap.size+1+1]?:=b8.block (by omega) (by omega)
   have HTH8:Hid (W8.there (w.heap.size+1+1) 0 3):=fun j hj=>by
    obtain ⟨v,hv⟩:=HPF6.out.1 j (by simpa using hj)
    rw [Nat.zero_add]
    exact ⟨by rw [(World.cell?_of_block (w:=W6) (a:=⟨w.heap.size+1+1,j,none⟩) hk8).trans hv];rfl,(frozen_block hk8 j).trans (HPF6.out.2 j)⟩
   obtain ⟨W9,hW9⟩:∃ W9,W8.setCells (w.heap.size+1+1) 0 [.int .i64 0,.int .i64 0,.int .i64 0]=W9:=⟨_,rfl⟩
   have HW9:Hid (W8.setCells (w.heap.size+1+1) 0 (#[.int .i64 0,.int .i64 0,.int .i64 0]:Array Value).toList=W9):=hW9
   have b9:=setCells_but W8 (w.heap.size+1+1) 0 [.int .i64 0,.int .i64 0,.int .i64 0]
   have hrg9:=World.rangeAt_setCells_same W8 (w.heap.size+1+1) 0 [.int .i64 0,.int .i64 0,.int .i64 0] HTH8.out
   rw [hW9] at b9 hrg9
   have hs8:=b8.size
   have hs9:=b9.size
   have HCF:Hid ((∀ k v,([.int .i64 r.1.kind,.int .i64 r.1.op,.string r.1.name,.slice a1 r.1.lit.shape.length k1,.slice a2 r.1.lit.cells.length k2,.slice ak r.1.kids.length kk,.int .i64 r.1.pos]:List Value)[k]?=some v→W9.cell? ⟨w.heap.size+1,k,none⟩=some v)∧∀ k v,([.int .i64 0,.int .i64 0,.int .i64 0]:List Value)[k]?=some v→W9.cell? ⟨w.heap.size+1+1,k,none⟩=some v):=by
    refine ⟨fun k v hv=>?_,fun k v hv=>?_⟩
    ·have h:=hrg8 k v hv
     rw [Nat.zero_add] at h
     exact (b9.cell (p:=⟨w.heap.size+1,k,none⟩) (by show w.heap.size+1<_;omega) (by show ¬ w.heap.size+1=_;omega)).trans h
    ·have h:=hrg9 k v hv
     rw [Nat.zero_add] at h
     exact h
   have HBW9:Hid (Below w.heap.size w W9):=HBW6.out.trans ((b8.below (by omega) fun k h=>by omega).trans (b9.below (by omega) fun k h=>by omega))
   have HS9:Hid (P<W9.heap.size∧w5.heap.size≤W9.heap.size∧w0.heap.size≤W9.heap.size):=by have:=HO.out.size;have:=HBW6.out.size;exact ⟨by omega,by omega,by omega⟩
   have HTR9:Hid (Tr (n+1) w0.heap.size (m'+1) W4.heap.size w5.heap.size W9 r.1 (.agg #[.int .i64 r.1.kind,.int .i64 r.1.op,.string r.1.name,.slice a1 r.1.lit.shape.length k1,.slice a2 r.1.lit.cells.length k2,.slice ak r.1.kids.length kk,.int .i64 r.1.pos])) :=
    (HTR6.out.keep (Kp.but b8 (by have:=HO.out.size;omega) (by omega) fun k hk=>⟨by have:=HO.out.size;omega,Or.inl (by have:=HS4.out;omega)⟩)).keep (Kp.but b9 (by have:=HO.out.size;omega) (by omega) fun k hk=>⟨by have:=HO.out.size;omega,Or.inl (by have:=HS4.out;omega)⟩)
   clear hW8 hW9 b8 b9 hrg8 hrg9 hk8 hs8 hs9 h6 HPF6 HRV6 HTR6 HRG6 HPS HDR
   go_wp2_with (first|(refine wpList_store_mid rfl 39 (.tmp 6) (.tmp 16) rfl (w.heap.size+1) 0 #[.int .i64 r.1.kind,.int .i64 r.1.op,.string r.1.name,.slice a1 r.1.lit.shape.length k1,.slice a2 r.1.lit.cells.length k2,.slice ak r.1.kids.length kk,.int .i64 r.1.pos] rfl rfl HTH5.out (by kernel_rfl) (by simp [Value.oneCell']) ?_;rw [HW6.out])|(refine wpList_store_mid rfl 39 (.tmp 6) (.tmp 23) rfl (w.heap.size+1) 0 #[.int .i64 r.1.kind,.int .i64 r.1.op,.string r.1.name,.slice a1 r.1.lit.shape.length k1,.slice a2 r.1.lit.cells.length k2,.slice ak r.1.kids.length kk,.int .i64 r.1.pos] rfl rfl HTH6.out (by kernel_rfl) (by simp [Value.oneCell']) ?_;rw [HW8.out])|(refine wpList_store_mid rfl 28 (.tmp 7) (.tmp 24) rfl (w.heap.size+1+1) 0 #[.int .i64 0,.int .i64 0,.int .i64 0] rfl rfl HTH8.out (by kernel_rfl) (by simp [Value.oneCell']) ?_;rw [HW9.out]))
   refine leaves_cons (f:=19) (args:=#[.pointer (some ⟨w.heap.size+1,0,none⟩),.pointer (some ⟨w.heap.size+1+1,0,none⟩)]) (by simp) (by simp [go_sem]) ?_
   refine (idle19 (w.heap.size+1) (w.heap.size+1+1) W9).mono ?_
   rintro en u w10 ⟨rfl,rfl,hb10⟩
   have hx:=HS6.out.2.2.2
   have h9:=HS9.out
   have x0:=(hb10.cell (p:=⟨w.heap.size+1,0,none⟩) (by show w.heap.size+1<_;omega)).trans (HCF.out.1 0 _ rfl)
   have x1:=(hb10.cell (p:=⟨w.heap.size+1,1,none⟩) (by show w.heap.size+1<_;omega)).trans (HCF.out.1 1 _ rfl)
   have x2:=(hb10.cell (p:=⟨w.heap.size+1,2,none⟩) (by show w.heap.size+1<_;omega)).trans (HCF.out.1 2 _ rfl)
   have x3:=(hb10.cell (p:=⟨w.heap.size+1,3,none⟩) (by show w.heap.size+1<_;omega)).trans (HCF.out.1 3 _ rfl)
   have x4:=(hb10.cell (p:=⟨w.heap.size+1,4,none⟩) (by show w.heap.size+1<_;omega)).trans (HCF.out.1 4 _ rfl)
   have x5:=(hb10.cell (p:=⟨w.heap.size+1,5,none⟩) (by show w.heap.size+1<_;omega)).trans (HCF.out.1 5 _ rfl)
   have x6:=(hb10.cell (p:=⟨w.heap.size+1,6,none⟩) (by show w.heap.size+1<_;omega)).trans (HCF.out.1 6 _ rfl)
   have y0:=(hb10.cell (p:=⟨w.heap.size+1+1,0,none⟩) (by show w.heap.size+1+1<_;omega)).trans (HCF.out.2 0 _ rfl)
   have y1:=(hb10.cell (p:=⟨w.heap.size+1+1,1,none⟩) (by show w.heap.size+1+1<_;omega)).trans (HCF.out.2 1 _ rfl)
   have y2:=(hb10.cell (p:=⟨w.heap.size+1+1,2,none⟩) (by show w.heap.size+1+1<_;omega)).trans (HCF.out.2 2 _ rfl)
   have HG:Hid (GvP n w0 w (.ok r.1) (.returned (.tuple #[.agg #[.int .i64 r.1.kind,.int .i64 r.1.op,.string r.1.name,.slice a1 r.1.lit.shape.length k1,.slice a2 r.1.lit.cells.length k2,.slice ak r.1.kids.length kk,.int .i64 r.1.pos],.agg #[.int .i64 0,.int .i64 0,.int .i64 0]])) w10) :=
    ⟨HBW9.out.trans (hb10.mono HBW9.out.size),_,_,rfl,(HTR9.out.keep (Kp.of hb10 HS9.out.2.2 HS9.out.2.1)).wide (by have:=HS4.out;omega) (Nat.le_trans HS9.out.2.1 hb10.size)⟩
   clear hb10
   simp [Leaves,settle,results,Try.results9,go_sem,x0,x1,x2,x3,x4,x5,x6,y0,y1,y2]
   exact HG.out
end Go.Proofs.Ytnaejfoighmfeaa
namespace Go.Proofs.Ytnaejfoighmfeaa.Rn
open Go.ChangeShapes Go.WideShapes Go.ChangeAt Go.RowKit
set_option maxRecDepth 100000
set_option linter.unusedVariables false
set_option linter.unusedSimpArgs false
def wksL:List Wo:=[⟨1,nilT,atomA 1,0⟩,⟨4,⟨#[43]⟩,nilA,1⟩,⟨4,⟨#[226,141,179]⟩,nilA,2⟩,⟨1,nilT,atomA 3,5⟩]
def wksT:List Wo:=[⟨1,nilT,atomA 1,0⟩,⟨4,⟨#[43]⟩,nilA,1⟩]
theorem wks_lex:lexA ⟨#[49,43,226,141,179,51]⟩=.ok wksL:=by kernel_rfl
theorem wks_two:parseS aplG 2 wksT=.bad 2 2:=by kernel_rfl
def okN:Rs Nd→Nd
|.ok x=>x
|_=>nNil
theorem wks_all:∃ x,parseS aplG 9 wksL=.ok x∧x.kind=6∧x.kids.length=3∧(nAt x.kids 2).kind=5:=⟨okN (parseS aplG 9 wksL),by kernel_rfl,by kernel_rfl,by kernel_rfl,by kernel_rfl⟩
theorem WoR.two {n:Nat} {w:World} {a:Option Addr} {x y:Wo} {r:List Wo} (h:WoR n w a (x::y::r)):WoR n w a [x,y]:=fun i hi=>by
 have:i=0∨i=1:=by simp at hi;omega
 rcases this with rfl|rfl
 ·exact h 0 (by simp)
 ·exact h 1 (by simp)
theorem bel_next {w w' w'':World} (h:Below w.heap.size w w') (h':Below w'.heap.size w' w''):Below w.heap.size w w'':=h.trans (h'.mono h.size)
abbrev n7:List Value:=[.int .i64 0,.int .i64 0,.string ⟨#[]⟩,.slice none 0 0,.slice none 0 0,.slice none 0 0,.int .i64 0]
abbrev n3:List Value:=[.int .i64 0,.int .i64 0,.int .i64 0]
theorem al7 {A w:World} (h:Below (A.alloc (.cells #[.int .i64 0,.int .i64 0,.string ⟨#[]⟩,.slice none 0 0,.slice none 0 0,.slice none 0 0,.int .i64 0] 39)).heap.size (A.alloc (.cells #[.int .i64 0,.int .i64 0,.string ⟨#[]⟩,.slice none 0 0,.slice none 0 0,.slice none 0 0,.int .i64 0] 39)) w):Cs w A.heap.size n7:=(Cs.new A n7 39).next h (by simp)
theorem al3 {A w:World} (h:Below (A.alloc (.cells #[.int .i64 0,.int .i64 0,.int .i64 0] 28)).heap.size (A.alloc (.cells #[.int .i64 0,.int .i64 0,.int .i64 0] 28)) w):Cs w A.heap.size n3:=(Cs.new A n3 28).next h (by simp)
theorem al73 {A w:World} (h:Below ((A.alloc (.cells #[.int .i64 0,.int .i64 0,.string ⟨#[]⟩,.slice none 0 0,.slice none 0 0,.slice none 0 0,.int .i64 0] 39)).alloc (.cells #[.int .i64 0,.int .i64 0,.int .i64 0] 28)).heap.size ((A.alloc (.cells #[.int .i64 0,.int .i64 0,.string ⟨#[]⟩,.slice none 0 0,.slice none 0 0,.slice none 0 0,.int .i64 0] 39)).alloc (.cells #[.int .i64 0,.int .i64 0,.int .i64 0] 28)) w):Cs w A.heap.size n7∧Cs w (A.heap.size+1) n3:=by
 have h3:=al3 h
 have h7:=al7 (bel_next (one_alloc _ _) h)
 rw [show (A.alloc (.cells #[.int .i64 0,.int .i64 0,.string ⟨#[]⟩,.slice none 0 0,.slice none 0 0,.slice none 0 0,.int .i64 0] 39)).heap.size=A.heap.size+1 by simp] at h3
 exact ⟨h7,h3⟩
theorem al37 {A w:World} (h:Below ((A.alloc (.cells #[.int .i64 0,.int .i64 0,.int .i64 0] 28)).alloc (.cells #[.int .i64 0,.int .i64 0,.string ⟨#[]⟩,.slice none 0 0,.slice none 0 0,.slice none 0 0,.int .i64 0] 39)).heap.size ((A.alloc (.cells #[.int .i64 0,.int .i64 0,.int .i64 0] 28)).alloc (.cells #[.int .i64 0,.int .i64 0,.string ⟨#[]⟩,.slice none 0 0,.slice none 0 0,.slice none 0 0,.int .i64 0] 39)) w):Cs w (A.heap.size+1) n7∧Cs w A.heap.size n3:=by
 have h7:=al7 h
 have h3:=al3 (bel_next (one_alloc _ _) h)
 rw [show (A.alloc (.cells #[.int .i64 0,.int .i64 0,.int .i64 0] 28)).heap.size=A.heap.size+1 by simp] at h7
 exact ⟨h7,h3⟩
theorem al7d {A w:World} (h:Below (A.alloc (.cells #[.int .i64 0,.int .i64 0,.string ⟨#[]⟩,.slice none 0 0,.slice none 0 0,.slice none 0 0,.int .i64 0] 39)).drew.heap.size (A.alloc (.cells #[.int .i64 0,.int .i64 0,.string ⟨#[]⟩,.slice none 0 0,.slice none 0 0,.slice none 0 0,.int .i64 0] 39)).drew w):Cs w A.heap.size n7:=al7 (A:=A) (bel_next (Below.refl _ _).drew h)
theorem al3d {A w:World} (h:Below (A.alloc (.cells #[.int .i64 0,.int .i64 0,.int .i64 0] 28)).drew.heap.size (A.alloc (.cells #[.int .i64 0,.int .i64 0,.int .i64 0] 28)).drew w):Cs w A.heap.size n3:=al3 (A:=A) (bel_next (Below.refl _ _).drew h)
theorem al73d {A w:World} (h:Below ((A.alloc (.cells #[.int .i64 0,.int .i64 0,.string ⟨#[]⟩,.slice none 0 0,.slice none 0 0,.slice none 0 0,.int .i64 0] 39)).alloc (.cells #[.int .i64 0,.int .i64 0,.int .i64 0] 28)).drew.heap.size ((A.alloc (.cells #[.int .i64 0,.int .i64 0,.string ⟨#[]⟩,.slice none 0 0,.slice none 0 0,.slice none 0 0,.int .i64 0] 39)).alloc (.cells #[.int .i64 0,.int .i64 0,.int .i64 0] 28)).drew w):Cs w A.heap.size n7∧Cs w (A.heap.size+1) n3:=al73 (A:=A) (bel_next (Below.refl _ _).drew h)
theorem al37d {A w:World} (h:Below ((A.alloc (.cells #[.int .i64 0,.int .i64 0,.int .i64 0] 28)).alloc (.cells #[.int .i64 0,.int .i64 0,.string ⟨#[]⟩,.slice none 0 0,.slice none 0 0,.slice none 0 0,.int .i64 0] 39)).drew.heap.size ((A.alloc (.cells #[.int .i64 0,.int .i64 0,.int .i64 0] 28)).alloc (.cells #[.int .i64 0,.int .i64 0,.string ⟨#[]⟩,.slice none 0 0,.slice none 0 0,.slice none 0 0,.int .i64 0] 39)).drew w):Cs w (A.heap.size+1) n7∧Cs w A.heap.size n3:=al37 (A:=A) (bel_next (Below.refl _ _).drew h)
theorem Cs.l7 {w:World} {s:Nat} (h:Cs w s n7):s<w.heap.size∧w.cell? ⟨s,0,none⟩=some (.int .i64 0)∧w.cell? ⟨s,1,none⟩=some (.int .i64 0)∧w.cell? ⟨s,2,none⟩=some (.string ⟨#[]⟩)∧w.cell? ⟨s,3,none⟩=some (.slice none 0 0)∧w.cell? ⟨s,4,none⟩=some (.slice none 0 0)∧w.cell? ⟨s,5,none⟩=some (.slice none 0 0)∧w.cell? ⟨s,6,none⟩=some (.int .i64 0)∧(∀ k,w.frozen? ⟨s,k,none⟩=false) :=
 ⟨h.lt,h.c 0 _ rfl,h.c 1 _ rfl,h.c 2 _ rfl,h.c 3 _ rfl,h.c 4 _ rfl,h.c 5 _ rfl,h.c 6 _ rfl,h.z⟩
theorem Cs.l3 {w:World} {s:Nat} (h:Cs w s n3):s<w.heap.size∧w.cell? ⟨s,0,none⟩=some (.int .i64 0)∧w.cell? ⟨s,1,none⟩=some (.int .i64 0)∧w.cell? ⟨s,2,none⟩=some (.int .i64 0)∧(∀ k,w.frozen? ⟨s,k,none⟩=false) :=
 ⟨h.lt,h.c 0 _ rfl,h.c 1 _ rfl,h.c 2 _ rfl,h.z⟩
theorem Cs.on {W W':World} {s:Nat} {vs:List Value} (h:Cs W s vs) (hb:Below W.heap.size W W'):Cs W' s vs:=h.next hb h.lt
theorem wpAny_store {P:Program} {md:Region.Mode} {ops:Array Oper} {Q:Exit→Act→World→Prop} {i:Nat} {o:Oper} {fuel:Nat} {listed:Array Bool} {a:Act} {w:World} (hr:Region.ready md ops listed=[i]) (ho:ops[i]?=some o) (hw:Region.wanted o (yielded ops a.tmps)=true) (ty:TypeId) (x y:Operand) (hs:o.op=.store ty x y) (b f:Nat) (cells:Array Value) (hx:a.eval x=.pointer (some ⟨b,f,none⟩)) (hy:a.eval y=.agg cells) (ht:w.there b f cells.size) (hi:(P.info? ty).map (·.size)=some cells.size) (h1:cells.all (·.oneCell')=true) (h:wpAny P md ops Q fuel (listed.setIfInBounds i true) (a.put o.dst undef) (w.setCells b f cells.toList)):wpAny P md ops Q (fuel+1) listed a w:=by
 refine wpAny_ready hr (by simp) (AllReady.cons ho (fun K hK=>?_) AllReady.nil)
 rw [if_pos hw]
 exact wp_store_mid ty x y hs b f cells hx hy ht hi h1 (hK _ _ h)
set_option maxHeartbeats 16000000 in
theorem works8 {w:World}:Calls Try.prog 8 #[] w fun e w'=>e=.returned (.bool true)∧Below w.heap.size w w':=by
 have HL:=hide (lex12 ⟨#[49,43,226,141,179,51]⟩ w)
 rw [wks_lex] at HL
 have HA:=hide (fun W=>apl13 (w:=W))
 have HP:Hid (∀ (V:World) (R:Raw) (a:Option Addr) (c:Nat),StrsIn V R.av aplG.verbs→StrsIn V R.aa aplG.adverbs→StrsIn V R.ab aplG.behind→WoR 1 V a wksL→∀ W,Below V.heap.size V W→Calls Try.prog 9 #[gV aplG R,.slice a 4 c,.int .i64 9] W fun en w'=>GvP 0 V W (parseS aplG 9 wksL) en w'):=fun V R a c h1 h2 h3 h4 W hW =>
  parse9 (n:=0) (w0:=V) (g:=aplG) (R:={ R with aw:=a,cw:=c }) (ws:=wksL) (e:=9) hW h1 h2 h3 ⟨by decide,fun i hi=>by
   obtain ⟨b,off,z1,m1,z2,m2,ha,hl,k0,k1,k2,k3,k4,k5,k6⟩:=h4 i hi
   refine ⟨b,off,z1,m1,z2,m2,ha,hl,k0,k1,k2,k3,k4,⟨k5,?_⟩,k6⟩
   have:i=0∨i=1∨i=2∨i=3:=by simp [wksL] at hi;omega
   rcases this with rfl|rfl|rfl|rfl<;>decide⟩
 have HQ:Hid (∀ (V:World) (R:Raw) (a:Option Addr) (c:Nat),StrsIn V R.av aplG.verbs→StrsIn V R.aa aplG.adverbs→StrsIn V R.ab aplG.behind→WoR 1 V a wksL→∀ W,Below V.heap.size V W→Calls Try.prog 9 #[gV aplG R,.slice a 2 c,.int .i64 2] W fun en w'=>GvP 0 V W (parseS aplG 2 wksT) en w'):=fun V R a c h1 h2 h3 h4 W hW =>
  parse9 (n:=0) (w0:=V) (g:=aplG) (R:={ R with aw:=a,cw:=c }) (ws:=wksT) (e:=2) hW h1 h2 h3 ⟨by decide,fun i hi=>by
   obtain ⟨b,off,z1,m1,z2,m2,ha,hl,k0,k1,k2,k3,k4,k5,k6⟩:=(WoR.two h4) i hi
   refine ⟨b,off,z1,m1,z2,m2,ha,hl,k0,k1,k2,k3,k4,⟨k5,?_⟩,k6⟩
   have:i=0∨i=1:=by simp [wksT] at hi;omega
   rcases this with rfl|rfl<;>decide⟩
 obtain ⟨x,hx,hk,hkl,hk2⟩:=wks_all
 rw [hx] at HP
 rw [wks_two] at HQ
 clear hx
 go_enter Try.func8,Try.ntmps8
 go_wp2_with fail
 refine HL.out.mono ?_
 rintro e w1 ⟨hb1,a,c,rfl,hc,hw1⟩
 replace hw1:=hw1.words
 clear HL
 rw [show wksL.length=4 from rfl] at hc ⊢
 have HB1:=hide hb1
 have HW1:=hide hw1
 clear hb1 hw1
 go_wp2_with fail
 refine (HA.out _).mono ?_
 rintro e w2 ⟨hb2,R2,rfl,s1,s2,s3⟩
 have hw2:=HW1.out.next ((one_alloc w1 (.cells #[.int .i64 0,.int .i64 0,.int .i64 0] 28)).trans (hb2.mono (one_alloc _ _).size))
 have HP2:=hide (HP.out w2 R2 a c s1 s2 s3 hw2 w2 (Below.refl _ _))
 have HW2:=hide hw2
 have HB2:=hide (HB1.out.trans (((one_alloc w1 (.cells #[.int .i64 0,.int .i64 0,.int .i64 0] 28)).trans (hb2.mono (one_alloc _ _).size)).mono HB1.out.size))
 clear HP s1 s2 s3 hb2 hw2 HW1 HB1
 go_wp2_with fail
 refine HP2.out.mono ?_
 rintro e w3 ⟨hb3,v,m,rfl,htr⟩
 clear HP2
 obtain ⟨m',hm',a1,c1,a2,c2,ak,ck,rfl,-,-,-,hK⟩:=htr.form
 clear htr
 rw [hkl,hk]
 generalize x.op=O
 generalize x.name=S
 generalize x.pos=P
 generalize x.lit.shape.length=L1
 generalize x.lit.cells.length=L2
 go_upto_region 3 with fail
 obtain ⟨W4,hW4⟩:∃ W4,(w3.alloc (.cells #[.int .i64 6,.int .i64 O,.string S,.slice a1 L1 c1,.slice a2 L2 c2,.slice ak 3 ck,.int .i64 P] 39)).alloc (.cells #[.int .i64 0,.int .i64 0,.int .i64 0] 28)=W4:=⟨_,rfl⟩
 have hb4:Below w3.heap.size w3 W4:=by rw [←hW4];exact two_allocs _ _ _
 have KS:Hid (∀ W,Below W4.heap.size W4 W→Below W4.heap.size W4 W∧W.cell? ⟨w3.heap.size+1,0,none⟩=some (.int .i64 0)∧W.cell? ⟨w3.heap.size,0,none⟩=some (.int .i64 6)∧W.cell? ⟨w3.heap.size,5,none⟩=some (.slice ak 3 ck)∧∃ b,ak=some ⟨b,0,none⟩∧W.cell? ⟨b,14,none⟩=some (.int .i64 5)):=fun W hW=>by
  have hs4:W4.heap.size=w3.heap.size+2:=by rw [←hW4];simp
  have hN:Cs W4 w3.heap.size [.int .i64 6,.int .i64 O,.string S,.slice a1 L1 c1,.slice a2 L2 c2,.slice ak 3 ck,.int .i64 P]:=by
   rw [←hW4]
   exact (Cs.new w3 [.int .i64 6,.int .i64 O,.string S,.slice a1 L1 c1,.slice a2 L2 c2,.slice ak 3 ck,.int .i64 P] 39).next (one_alloc _ _) (by simp)
  have hF:Cs W4 (w3.heap.size+1) [.int .i64 0,.int .i64 0,.int .i64 0]:=by
   have hs1:(w3.alloc (.cells #[.int .i64 6,.int .i64 O,.string S,.slice a1 L1 c1,.slice a2 L2 c2,.slice ak 3 ck,.int .i64 P] 39)).heap.size=w3.heap.size+1:=by simp
   have h:=Cs.new (w3.alloc (.cells #[.int .i64 6,.int .i64 O,.string S,.slice a1 L1 c1,.slice a2 L2 c2,.slice ak 3 ck,.int .i64 P] 39)) [.int .i64 0,.int .i64 0,.int .i64 0] 28
   rw [hs1] at h
   rw [←hW4];exact h
  refine ⟨hW,(hF.next hW (by omega)).c 0 _ rfl,(hN.next hW (by omega)).c 0 _ rfl,(hN.next hW (by omega)).c 5 _ rfl,?_⟩
  rcases hK with h0|⟨b,F,hb,-,hbl,-,-,hc⟩
  ·rw [h0] at hkl;cases hkl
  ·obtain ⟨d1,e1,d2,e2,dk,ek,hsv,-⟩:=hc 2 (by omega)
   refine ⟨b,hb,?_⟩
   have h14:=hsv.1
   rw [hk2] at h14
   have hb4w:=hb4.trans (hW.mono hb4.size)
   exact (hb4w.cell (p:=⟨b,14,none⟩) hbl).trans h14
 have HBW:=hide (HB2.out.trans ((hb3.trans (hb4.mono hb3.size)).mono HB2.out.size))
 have hw4:=HW2.out.next (hb3.trans (hb4.mono hb3.size))
 have HQ4:Hid (∀ W,Below W4.heap.size W4 W→∀ R:Raw,StrsIn W R.av aplG.verbs→StrsIn W R.aa aplG.adverbs→StrsIn W R.ab aplG.behind→∀ W',Below W.heap.size W W'→Calls Try.prog 9 #[gV aplG R,.slice a 2 c,.int .i64 2] W' fun en w'=>GvP 0 W W' (.bad 2 2) en w'):=fun W hW R s1 s2 s3 W' hW'=>HQ.out W R a c s1 s2 s3 (hw4.next hW) W' hW'
 rw [hW4]
 clear HQ hb3 hb4 hK hkl hk2 hW4 HW2 HB2 hk hw4
 have HD0:Hid (Below W4.heap.size W4 W4.drew):=(Below.refl _ _).drew
 have FIN:Hid (∀ (W:World) (p q:Nat),W4.heap.size≤p→W4.heap.size≤q→p≠q→Cs W p n7→Cs W q n3→Below W4.heap.size W4 W→W.there p 0 7∧(W.setCells p 0 n7).there q 0 3∧Below W4.heap.size W4 ((W.setCells p 0 n7).setCells q 0 [.int .i64 2,.int .i64 2,.int .i64 0])∧((W.setCells p 0 n7).setCells q 0 [.int .i64 2,.int .i64 2,.int .i64 0]).cell? ⟨q,0,none⟩=some (.int .i64 2)∧((W.setCells p 0 n7).setCells q 0 [.int .i64 2,.int .i64 2,.int .i64 0]).cell? ⟨q,1,none⟩=some (.int .i64 2)):=fun W p q hp hq hne c7 c3 hb=>by
  obtain ⟨C8,B8⟩:=c7.put (us:=n7) (by simp) rfl
  have D8:=c3.but B8 (fun h=>hne h.symm)
  obtain ⟨C9,B9⟩:=D8.put (us:=[.int .i64 2,.int .i64 2,.int .i64 0]) (by simp) rfl
  have hb8:=hb.trans (B8.below hb.size fun k hk=>by omega)
  exact ⟨c7.there (by simp),D8.there (by simp),hb8.trans (B9.below hb8.size fun k hk=>by omega),C9.c 0 _ rfl,C9.c 1 _ rfl⟩
 go_cut [5,6] from 7 (fun s5 s6 wx=>∃ p q,s5=.pointer (some ⟨p,0,none⟩)∧s6=.pointer (some ⟨q,0,none⟩)∧Below W4.heap.size W4 wx∧wx.cell? ⟨q,0,none⟩=some (.int .i64 2)∧wx.cell? ⟨q,1,none⟩=some (.int .i64 2))
 case first =>
  refine wp_region_any (by kernel_rfl) ?_
  change wpAny _ _ _ _ _ _ _ (World.drew _)
  refine wpAny_take (i:=1) (v:=.slice a 4 c) rfl (by kernel_rfl) (by kernel_rfl) (by kernel_rfl) (fun _ _ _ h=>h) (Or.inl ⟨by rfl,by intro w;go_simp⟩) ?_
  refine wpAny_take (i:=2) (v:=.slice a 2 c) rfl (by kernel_rfl) (by kernel_rfl) (by kernel_rfl) (fun _ _ _ h=>h) (Or.inl ⟨by rfl,by intro w;go_simp;intro h;omega⟩) ?_
  refine wpAny_ready (rs:=[0,7,8]) (by kernel_rfl) (by simp) ?_
  refine AllReady.cons rfl (fun K hK=>?_) ?_
  ·go_simp
   refine (HA.out _).mono ?_
   rintro e w5 ⟨hb5r,R5,rfl,t1,t2,t3⟩
   have hb5:=bel_next (show Below W4.heap.size W4 _ from (Below.refl _ _).drew) hb5r
   refine hK _ _ ?_
   clear hK K hb5r
   refine wpAny_ready (rs:=[3,7,8]) (by kernel_rfl) (by simp) ?_
   refine AllReady.cons rfl (fun K hK=>?_) ?_
   ·go_simp
    refine Calls.mono (HQ4.out w5 hb5 R5 t1 t2 t3 _ (Below.refl _ _)) ?_
    rintro e w6 ⟨hb6r,rfl⟩
    have hb56:=bel_next (show Below w5.heap.size w5 _ from Below.refl _ _) hb6r
    have hb6:=bel_next hb5 hb56
    have hl56:=hb56.size
    refine hK _ _ ?_
    clear hK K hb6r
    refine wpAny_take (i:=4) (v:=.tuple #[nilV,.agg #[.int .i64 2,.int .i64 2,.int .i64 0]]) rfl (by kernel_rfl) (by kernel_rfl) (by kernel_rfl) (fun _ _ _ h=>h) (Or.inl ⟨by rfl,by intro w;rfl⟩) ?_
    refine wpAny_take (i:=5) (v:=nilV) rfl (by kernel_rfl) (by kernel_rfl) (by kernel_rfl) (fun _ _ _ h=>h) (Or.inl ⟨by rfl,by intro w;rfl⟩) ?_
    refine wpAny_take (i:=6) (v:=.agg #[.int .i64 2,.int .i64 2,.int .i64 0]) rfl (by kernel_rfl) (by kernel_rfl) (by kernel_rfl) (fun _ _ _ h=>h) (Or.inl ⟨by rfl,by intro w;rfl⟩) ?_
    refine wpAny_ready (rs:=[7,8]) (by kernel_rfl) (by simp) ?_
    refine AllReady.cons rfl (fun K hK=>?_) ?_
    ·go_simp
     refine hK _ _ ?_
     clear hK K
     refine wpAny_ready (rs:=[8]) (by kernel_rfl) (by simp) ?_
     refine AllReady.cons rfl (fun K hK=>?_) ?_
     ·go_simp
      refine hK _ _ ?_
      clear hK K
      obtain ⟨c7,c3⟩:=al73 (A:=w6) (Below.refl _ _)
      have hbl:=bel_next hb6 (two_allocs w6 (.cells #[.int .i64 0,.int .i64 0,.string ⟨#[]⟩,.slice none 0 0,.slice none 0 0,.slice none 0 0,.int .i64 0] 39) (.cells #[.int .i64 0,.int .i64 0,.int .i64 0] 28))
      obtain ⟨t8,t9,k8,k9⟩:=FIN.out _ _ _ (by have:=hb5.size;omega) (by have:=hb5.size;omega) (by omega) c7 c3 hbl
      refine wpAny_store (i:=9) (by kernel_rfl) rfl (by kernel_rfl) 39 (.tmp 5) (.tmp 22) rfl _ 0 #[.int .i64 0,.int .i64 0,.string ⟨#[]⟩,.slice none 0 0,.slice none 0 0,.slice none 0 0,.int .i64 0] rfl rfl t8 (by kernel_rfl) (by kernel_rfl) ?_
      refine wpAny_store (i:=10) (by kernel_rfl) rfl (by kernel_rfl) 28 (.tmp 6) (.tmp 23) rfl _ 0 #[.int .i64 2,.int .i64 2,.int .i64 0] rfl rfl t9 (by kernel_rfl) (by kernel_rfl) ?_
      refine wpAny_done (by kernel_rfl) ?_ _
      go_wp2
      go_meet
      case rel=>exact ⟨_,_,rfl,rfl,k8,k9⟩
     exact AllReady.nil
    refine AllReady.cons rfl (fun K hK=>?_) ?_
    ·go_simp
     refine hK _ _ ?_
     clear hK K
     refine wpAny_ready (rs:=[7]) (by kernel_rfl) (by simp) ?_
     refine AllReady.cons rfl (fun K hK=>?_) ?_
     ·go_simp
      refine hK _ _ ?_
      clear hK K
      obtain ⟨c7,c3⟩:=al37 (A:=w6) (Below.refl _ _)
      have hbl:=bel_next hb6 (two_allocs w6 (.cells #[.int .i64 0,.int .i64 0,.int .i64 0] 28) (.cells #[.int .i64 0,.int .i64 0,.string ⟨#[]⟩,.slice none 0 0,.slice none 0 0,.slice none 0 0,.int .i64 0] 39))
      obtain ⟨t8,t9,k8,k9⟩:=FIN.out _ _ _ (by have:=hb5.size;omega) (by have:=hb5.size;omega) (by omega) c7 c3 hbl
      refine wpAny_store (i:=9) (by kernel_rfl) rfl (by kernel_rfl) 39 (.tmp 5) (.tmp 22) rfl _ 0 #[.int .i64 0,.int .i64 0,.string ⟨#[]⟩,.slice none 0 0,.slice none 0 0,.slice none 0 0,.int .i64 0] rfl rfl t8 (by kernel_rfl) (by kernel_rfl) ?_
      refine wpAny_store (i:=10) (by kernel_rfl) rfl (by kernel_rfl) 28 (.tmp 6) (.tmp 23) rfl _ 0 #[.int .i64 2,.int .i64 2,.int .i64 0] rfl rfl t9 (by kernel_rfl) (by kernel_rfl) ?_
      refine wpAny_done (by kernel_rfl) ?_ _
      go_wp2
      go_meet
      case rel=>exact ⟨_,_,rfl,rfl,k8,k9⟩
     exact AllReady.nil
    exact AllReady.nil
   refine AllReady.cons rfl (fun K hK=>?_) ?_
   ·go_simp
    refine hK _ _ ?_
    clear hK K
    refine wpAny_ready (rs:=[3,8]) (by kernel_rfl) (by simp) ?_
    refine AllReady.cons rfl (fun K hK=>?_) ?_
    ·go_simp
     refine Calls.mono (HQ4.out w5 hb5 R5 t1 t2 t3 _ (one_alloc _ _)) ?_
     rintro e w6 ⟨hb6r,rfl⟩
     have hb56:=bel_next (show Below w5.heap.size w5 _ from one_alloc _ _) hb6r
     have hb6:=bel_next hb5 hb56
     have hl56:=hb56.size
     have j7:=al7 hb6r
     have l7:=j7.lt
     refine hK _ _ ?_
     clear hK K hb6r
     refine wpAny_take (i:=4) (v:=.tuple #[nilV,.agg #[.int .i64 2,.int .i64 2,.int .i64 0]]) rfl (by kernel_rfl) (by kernel_rfl) (by kernel_rfl) (fun _ _ _ h=>h) (Or.inl ⟨by rfl,by intro w;rfl⟩) ?_
     refine wpAny_take (i:=5) (v:=nilV) rfl (by kernel_rfl) (by kernel_rfl) (by kernel_rfl) (fun _ _ _ h=>h) (Or.inl ⟨by rfl,by intro w;rfl⟩) ?_
     refine wpAny_take (i:=6) (v:=.agg #[.int .i64 2,.int .i64 2,.int .i64 0]) rfl (by kernel_rfl) (by kernel_rfl) (by kernel_rfl) (fun _ _ _ h=>h) (Or.inl ⟨by rfl,by intro w;rfl⟩) ?_
     refine wpAny_ready (rs:=[8]) (by kernel_rfl) (by simp) ?_
     refine AllReady.cons rfl (fun K hK=>?_) ?_
     ·go_simp
      refine hK _ _ ?_
      clear hK K
      have c3:=al3 (A:=w6) (Below.refl _ _)
      have c7:=j7.on (one_alloc w6 (.cells #[.int .i64 0,.int .i64 0,.int .i64 0] 28))
      have hbl:=bel_next hb6 (one_alloc w6 (.cells #[.int .i64 0,.int .i64 0,.int .i64 0] 28))
      obtain ⟨t8,t9,k8,k9⟩:=FIN.out _ _ _ (by have:=hb5.size;omega) (by have:=hb5.size;omega) (by omega) c7 c3 hbl
      refine wpAny_store (i:=9) (by kernel_rfl) rfl (by kernel_rfl) 39 (.tmp 5) (.tmp 22) rfl _ 0 #[.int .i64 0,.int .i64 0,.string ⟨#[]⟩,.slice none 0 0,.slice none 0 0,.slice none 0 0,.int .i64 0] rfl rfl t8 (by kernel_rfl) (by kernel_rfl) ?_
      refine wpAny_store (i:=10) (by kernel_rfl) rfl (by kernel_rfl) 28 (.tmp 6) (.tmp 23) rfl _ 0 #[.int .i64 2,.int .i64 2,.int .i64 0] rfl rfl t9 (by kernel_rfl) (by kernel_rfl) ?_
      refine wpAny_done (by kernel_rfl) ?_ _
      go_wp2
      go_meet
      case rel=>exact ⟨_,_,rfl,rfl,k8,k9⟩
     exact AllReady.nil
    refine AllReady.cons rfl (fun K hK=>?_) ?_
    ·go_simp
     refine hK _ _ ?_
     clear hK K
     refine wpAny_ready (rs:=[3]) (by kernel_rfl) (by simp) ?_
     refine AllReady.cons rfl (fun K hK=>?_) ?_
     ·go_simp
      refine Calls.mono (HQ4.out w5 hb5 R5 t1 t2 t3 _ (two_allocs _ _ _)) ?_
      rintro e w6 ⟨hb6r,rfl⟩
      have hb56:=bel_next (show Below w5.heap.size w5 _ from two_allocs _ _ _) hb6r
      have hb6:=bel_next hb5 hb56
      have hl56:=hb56.size
      obtain ⟨j7,j3⟩:=al73 hb6r
      have l7:=j7.lt
      have l3:=j3.lt
      refine hK _ _ ?_
      clear hK K hb6r
      refine wpAny_take (i:=4) (v:=.tuple #[nilV,.agg #[.int .i64 2,.int .i64 2,.int .i64 0]]) rfl (by kernel_rfl) (by kernel_rfl) (by kernel_rfl) (fun _ _ _ h=>h) (Or.inl ⟨by rfl,by intro w;rfl⟩) ?_
      refine wpAny_take (i:=5) (v:=nilV) rfl (by kernel_rfl) (by kernel_rfl) (by kernel_rfl) (fun _ _ _ h=>h) (Or.inl ⟨by rfl,by intro w;rfl⟩) ?_
      refine wpAny_take (i:=6) (v:=.agg #[.int .i64 2,.int .i64 2,.int .i64 0]) rfl (by kernel_rfl) (by kernel_rfl) (by kernel_rfl) (fun _ _ _ h=>h) (Or.inl ⟨by rfl,by intro w;rfl⟩) ?_
      have c7:=j7
      have c3:=j3
      have hbl:=hb6
      obtain ⟨t8,t9,k8,k9⟩:=FIN.out _ _ _ (by have:=hb5.size;omega) (by have:=hb5.size;omega) (by omega) c7 c3 hbl
      refine wpAny_store (i:=9) (by kernel_rfl) rfl (by kernel_rfl) 39 (.tmp 5) (.tmp 22) rfl _ 0 #[.int .i64 0,.int .i64 0,.string ⟨#[]⟩,.slice none 0 0,.slice none 0 0,.slice none 0 0,.int .i64 0] rfl rfl t8 (by kernel_rfl) (by kernel_rfl) ?_
      refine wpAny_store (i:=10) (by kernel_rfl) rfl (by kernel_rfl) 28 (.tmp 6) (.tmp 23) rfl _ 0 #[.int .i64 2,.int .i64 2,.int .i64 0] rfl rfl t9 (by kernel_rfl) (by kernel_rfl) ?_
      refine wpAny_done (by kernel_rfl) ?_ _
      go_wp2
      go_meet
      case rel=>exact ⟨_,_,rfl,rfl,k8,k9⟩
     exact AllReady.nil
    exact AllReady.nil
   refine AllReady.cons rfl (fun K hK=>?_) ?_
   ·go_simp
    refine hK _ _ ?_
    clear hK K
    refine wpAny_ready (rs:=[3,7]) (by kernel_rfl) (by simp) ?_
    refine AllReady.cons rfl (fun K hK=>?_) ?_
    ·go_simp
     refine Calls.mono (HQ4.out w5 hb5 R5 t1 t2 t3 _ (one_alloc _ _)) ?_
     rintro e w6 ⟨hb6r,rfl⟩
     have hb56:=bel_next (show Below w5.heap.size w5 _ from one_alloc _ _) hb6r
     have hb6:=bel_next hb5 hb56
     have hl56:=hb56.size
     have j3:=al3 hb6r
     have l3:=j3.lt
     refine hK _ _ ?_
     clear hK K hb6r
     refine wpAny_take (i:=4) (v:=.tuple #[nilV,.agg #[.int .i64 2,.int .i64 2,.int .i64 0]]) rfl (by kernel_rfl) (by kernel_rfl) (by kernel_rfl) (fun _ _ _ h=>h) (Or.inl ⟨by rfl,by intro w;rfl⟩) ?_
     refine wpAny_take (i:=5) (v:=nilV) rfl (by kernel_rfl) (by kernel_rfl) (by kernel_rfl) (fun _ _ _ h=>h) (Or.inl ⟨by rfl,by intro w;rfl⟩) ?_
     refine wpAny_take (i:=6) (v:=.agg #[.int .i64 2,.int .i64 2,.int .i64 0]) rfl (by kernel_rfl) (by kernel_rfl) (by kernel_rfl) (fun _ _ _ h=>h) (Or.inl ⟨by rfl,by intro w;rfl⟩) ?_
     refine wpAny_ready (rs:=[7]) (by kernel_rfl) (by simp) ?_
     refine AllReady.cons rfl (fun K hK=>?_) ?_
     ·go_simp
      refine hK _ _ ?_
      clear hK K
      have c7:=al7 (A:=w6) (Below.refl _ _)
      have c3:=j3.on (one_alloc w6 (.cells #[.int .i64 0,.int .i64 0,.string ⟨#[]⟩,.slice none 0 0,.slice none 0 0,.slice none 0 0,.int .i64 0] 39))
      have hbl:=bel_next hb6 (one_alloc w6 (.cells #[.int .i64 0,.int .i64 0,.string ⟨#[]⟩,.slice none 0 0,.slice none 0 0,.slice none 0 0,.int .i64 0] 39))
      obtain ⟨t8,t9,k8,k9⟩:=FIN.out _ _ _ (by have:=hb5.size;omega) (by have:=hb5.size;omega) (by omega) c7 c3 hbl
      refine wpAny_store (i:=9) (by kernel_rfl) rfl (by kernel_rfl) 39 (.tmp 5) (.tmp 22) rfl _ 0 #[.int .i64 0,.int .i64 0,.string ⟨#[]⟩,.slice none 0 0,.slice none 0 0,.slice none 0 0,.int .i64 0] rfl rfl t8 (by kernel_rfl) (by kernel_rfl) ?_
      refine wpAny_store (i:=10) (by kernel_rfl) rfl (by kernel_rfl) 28 (.tmp 6) (.tmp 23) rfl _ 0 #[.int .i64 2,.int .i64 2,.int .i64 0] rfl rfl t9 (by kernel_rfl) (by kernel_rfl) ?_
      refine wpAny_done (by kernel_rfl) ?_ _
      go_wp2
      go_meet
      case rel=>exact ⟨_,_,rfl,rfl,k8,k9⟩
     exact AllReady.nil
    refine AllReady.cons rfl (fun K hK=>?_) ?_
    ·go_simp
     refine hK _ _ ?_
     clear hK K
     refine wpAny_ready (rs:=[3]) (by kernel_rfl) (by simp) ?_
     refine AllReady.cons rfl (fun K hK=>?_) ?_
     ·go_simp
      refine Calls.mono (HQ4.out w5 hb5 R5 t1 t2 t3 _ (two_allocs _ _ _)) ?_
      rintro e w6 ⟨hb6r,rfl⟩
      have hb56:=bel_next (show Below w5.heap.size w5 _ from two_allocs _ _ _) hb6r
      have hb6:=bel_next hb5 hb56
      have hl56:=hb56.size
      obtain ⟨j7,j3⟩:=al37 hb6r
      have l3:=j3.lt
      have l7:=j7.lt
      refine hK _ _ ?_
      clear hK K hb6r
      refine wpAny_take (i:=4) (v:=.tuple #[nilV,.agg #[.int .i64 2,.int .i64 2,.int .i64 0]]) rfl (by kernel_rfl) (by kernel_rfl) (by kernel_rfl) (fun _ _ _ h=>h) (Or.inl ⟨by rfl,by intro w;rfl⟩) ?_
      refine wpAny_take (i:=5) (v:=nilV) rfl (by kernel_rfl) (by kernel_rfl) (by kernel_rfl) (fun _ _ _ h=>h) (Or.inl ⟨by rfl,by intro w;rfl⟩) ?_
      refine wpAny_take (i:=6) (v:=.agg #[.int .i64 2,.int .i64 2,.int .i64 0]) rfl (by kernel_rfl) (by kernel_rfl) (by kernel_rfl) (fun _ _ _ h=>h) (Or.inl ⟨by rfl,by intro w;rfl⟩) ?_
      have c7:=j7
      have c3:=j3
      have hbl:=hb6
      obtain ⟨t8,t9,k8,k9⟩:=FIN.out _ _ _ (by have:=hb5.size;omega) (by have:=hb5.size;omega) (by omega) c7 c3 hbl
      refine wpAny_store (i:=9) (by kernel_rfl) rfl (by kernel_rfl) 39 (.tmp 5) (.tmp 22) rfl _ 0 #[.int .i64 0,.int .i64 0,.string ⟨#[]⟩,.slice none 0 0,.slice none 0 0,.slice none 0 0,.int .i64 0] rfl rfl t8 (by kernel_rfl) (by kernel_rfl) ?_
      refine wpAny_store (i:=10) (by kernel_rfl) rfl (by kernel_rfl) 28 (.tmp 6) (.tmp 23) rfl _ 0 #[.int .i64 2,.int .i64 2,.int .i64 0] rfl rfl t9 (by kernel_rfl) (by kernel_rfl) ?_
      refine wpAny_done (by kernel_rfl) ?_ _
      go_wp2
      go_meet
      case rel=>exact ⟨_,_,rfl,rfl,k8,k9⟩
     exact AllReady.nil
    exact AllReady.nil
   exact AllReady.nil
  refine AllReady.cons rfl (fun K hK=>?_) ?_
  ·go_simp
   refine hK _ _ ?_
   clear hK K
   refine wpAny_ready (rs:=[0,8]) (by kernel_rfl) (by simp) ?_
   refine AllReady.cons rfl (fun K hK=>?_) ?_
   ·go_simp
    refine (HA.out _).mono ?_
    rintro e w5 ⟨hb5r,R5,rfl,t1,t2,t3⟩
    have hb5:=bel_next (show Below W4.heap.size W4 _ from (one_alloc _ _).drew) hb5r
    have j7:=al7d hb5r
    refine hK _ _ ?_
    clear hK K hb5r
    refine wpAny_ready (rs:=[3,8]) (by kernel_rfl) (by simp) ?_
    refine AllReady.cons rfl (fun K hK=>?_) ?_
    ·go_simp
     refine Calls.mono (HQ4.out w5 hb5 R5 t1 t2 t3 _ (Below.refl _ _)) ?_
     rintro e w6 ⟨hb6r,rfl⟩
     have hb56:=bel_next (show Below w5.heap.size w5 _ from Below.refl _ _) hb6r
     have hb6:=bel_next hb5 hb56
     have hl56:=hb56.size
     have l7:=j7.lt
     replace j7:=j7.on hb56
     refine hK _ _ ?_
     clear hK K hb6r
     refine wpAny_take (i:=4) (v:=.tuple #[nilV,.agg #[.int .i64 2,.int .i64 2,.int .i64 0]]) rfl (by kernel_rfl) (by kernel_rfl) (by kernel_rfl) (fun _ _ _ h=>h) (Or.inl ⟨by rfl,by intro w;rfl⟩) ?_
     refine wpAny_take (i:=5) (v:=nilV) rfl (by kernel_rfl) (by kernel_rfl) (by kernel_rfl) (fun _ _ _ h=>h) (Or.inl ⟨by rfl,by intro w;rfl⟩) ?_
     refine wpAny_take (i:=6) (v:=.agg #[.int .i64 2,.int .i64 2,.int .i64 0]) rfl (by kernel_rfl) (by kernel_rfl) (by kernel_rfl) (fun _ _ _ h=>h) (Or.inl ⟨by rfl,by intro w;rfl⟩) ?_
     refine wpAny_ready (rs:=[8]) (by kernel_rfl) (by simp) ?_
     refine AllReady.cons rfl (fun K hK=>?_) ?_
     ·go_simp
      refine hK _ _ ?_
      clear hK K
      have c3:=al3 (A:=w6) (Below.refl _ _)
      have c7:=j7.on (one_alloc w6 (.cells #[.int .i64 0,.int .i64 0,.int .i64 0] 28))
      have hbl:=bel_next hb6 (one_alloc w6 (.cells #[.int .i64 0,.int .i64 0,.int .i64 0] 28))
      obtain ⟨t8,t9,k8,k9⟩:=FIN.out _ _ _ (by have:=hb5.size;omega) (by have:=hb5.size;omega) (by omega) c7 c3 hbl
      refine wpAny_store (i:=9) (by kernel_rfl) rfl (by kernel_rfl) 39 (.tmp 5) (.tmp 22) rfl _ 0 #[.int .i64 0,.int .i64 0,.string ⟨#[]⟩,.slice none 0 0,.slice none 0 0,.slice none 0 0,.int .i64 0] rfl rfl t8 (by kernel_rfl) (by kernel_rfl) ?_
      refine wpAny_store (i:=10) (by kernel_rfl) rfl (by kernel_rfl) 28 (.tmp 6) (.tmp 23) rfl _ 0 #[.int .i64 2,.int .i64 2,.int .i64 0] rfl rfl t9 (by kernel_rfl) (by kernel_rfl) ?_
      refine wpAny_done (by kernel_rfl) ?_ _
      go_wp2
      go_meet
      case rel=>exact ⟨_,_,rfl,rfl,k8,k9⟩
     exact AllReady.nil
    refine AllReady.cons rfl (fun K hK=>?_) ?_
    ·go_simp
     refine hK _ _ ?_
     clear hK K
     refine wpAny_ready (rs:=[3]) (by kernel_rfl) (by simp) ?_
     refine AllReady.cons rfl (fun K hK=>?_) ?_
     ·go_simp
      refine Calls.mono (HQ4.out w5 hb5 R5 t1 t2 t3 _ (one_alloc _ _)) ?_
      rintro e w6 ⟨hb6r,rfl⟩
      have hb56:=bel_next (show Below w5.heap.size w5 _ from one_alloc _ _) hb6r
      have hb6:=bel_next hb5 hb56
      have hl56:=hb56.size
      have l7:=j7.lt
      replace j7:=j7.on hb56
      have j3:=al3 hb6r
      have l3:=j3.lt
      refine hK _ _ ?_
      clear hK K hb6r
      refine wpAny_take (i:=4) (v:=.tuple #[nilV,.agg #[.int .i64 2,.int .i64 2,.int .i64 0]]) rfl (by kernel_rfl) (by kernel_rfl) (by kernel_rfl) (fun _ _ _ h=>h) (Or.inl ⟨by rfl,by intro w;rfl⟩) ?_
      refine wpAny_take (i:=5) (v:=nilV) rfl (by kernel_rfl) (by kernel_rfl) (by kernel_rfl) (fun _ _ _ h=>h) (Or.inl ⟨by rfl,by intro w;rfl⟩) ?_
      refine wpAny_take (i:=6) (v:=.agg #[.int .i64 2,.int .i64 2,.int .i64 0]) rfl (by kernel_rfl) (by kernel_rfl) (by kernel_rfl) (fun _ _ _ h=>h) (Or.inl ⟨by rfl,by intro w;rfl⟩) ?_
      have c7:=j7
      have c3:=j3
      have hbl:=hb6
      obtain ⟨t8,t9,k8,k9⟩:=FIN.out _ _ _ (by have:=hb5.size;omega) (by have:=hb5.size;omega) (by omega) c7 c3 hbl
      refine wpAny_store (i:=9) (by kernel_rfl) rfl (by kernel_rfl) 39 (.tmp 5) (.tmp 22) rfl _ 0 #[.int .i64 0,.int .i64 0,.string ⟨#[]⟩,.slice none 0 0,.slice none 0 0,.slice none 0 0,.int .i64 0] rfl rfl t8 (by kernel_rfl) (by kernel_rfl) ?_
      refine wpAny_store (i:=10) (by kernel_rfl) rfl (by kernel_rfl) 28 (.tmp 6) (.tmp 23) rfl _ 0 #[.int .i64 2,.int .i64 2,.int .i64 0] rfl rfl t9 (by kernel_rfl) (by kernel_rfl) ?_
      refine wpAny_done (by kernel_rfl) ?_ _
      go_wp2
      go_meet
      case rel=>exact ⟨_,_,rfl,rfl,k8,k9⟩
     exact AllReady.nil
    exact AllReady.nil
   refine AllReady.cons rfl (fun K hK=>?_) ?_
   ·go_simp
    refine hK _ _ ?_
    clear hK K
    refine wpAny_ready (rs:=[0]) (by kernel_rfl) (by simp) ?_
    refine AllReady.cons rfl (fun K hK=>?_) ?_
    ·go_simp
     refine (HA.out _).mono ?_
     rintro e w5 ⟨hb5r,R5,rfl,t1,t2,t3⟩
     have hb5:=bel_next (show Below W4.heap.size W4 _ from (two_allocs _ _ _).drew) hb5r
     obtain ⟨j7,j3⟩:=al73d hb5r
     refine hK _ _ ?_
     clear hK K hb5r
     refine wpAny_ready (rs:=[3]) (by kernel_rfl) (by simp) ?_
     refine AllReady.cons rfl (fun K hK=>?_) ?_
     ·go_simp
      refine Calls.mono (HQ4.out w5 hb5 R5 t1 t2 t3 _ (Below.refl _ _)) ?_
      rintro e w6 ⟨hb6r,rfl⟩
      have hb56:=bel_next (show Below w5.heap.size w5 _ from Below.refl _ _) hb6r
      have hb6:=bel_next hb5 hb56
      have hl56:=hb56.size
      have l7:=j7.lt
      replace j7:=j7.on hb56
      have l3:=j3.lt
      replace j3:=j3.on hb56
      refine hK _ _ ?_
      clear hK K hb6r
      refine wpAny_take (i:=4) (v:=.tuple #[nilV,.agg #[.int .i64 2,.int .i64 2,.int .i64 0]]) rfl (by kernel_rfl) (by kernel_rfl) (by kernel_rfl) (fun _ _ _ h=>h) (Or.inl ⟨by rfl,by intro w;rfl⟩) ?_
      refine wpAny_take (i:=5) (v:=nilV) rfl (by kernel_rfl) (by kernel_rfl) (by kernel_rfl) (fun _ _ _ h=>h) (Or.inl ⟨by rfl,by intro w;rfl⟩) ?_
      refine wpAny_take (i:=6) (v:=.agg #[.int .i64 2,.int .i64 2,.int .i64 0]) rfl (by kernel_rfl) (by kernel_rfl) (by kernel_rfl) (fun _ _ _ h=>h) (Or.inl ⟨by rfl,by intro w;rfl⟩) ?_
      have c7:=j7
      have c3:=j3
      have hbl:=hb6
      obtain ⟨t8,t9,k8,k9⟩:=FIN.out _ _ _ (by have:=hb5.size;omega) (by have:=hb5.size;omega) (by omega) c7 c3 hbl
      refine wpAny_store (i:=9) (by kernel_rfl) rfl (by kernel_rfl) 39 (.tmp 5) (.tmp 22) rfl _ 0 #[.int .i64 0,.int .i64 0,.string ⟨#[]⟩,.slice none 0 0,.slice none 0 0,.slice none 0 0,.int .i64 0] rfl rfl t8 (by kernel_rfl) (by kernel_rfl) ?_
      refine wpAny_store (i:=10) (by kernel_rfl) rfl (by kernel_rfl) 28 (.tmp 6) (.tmp 23) rfl _ 0 #[.int .i64 2,.int .i64 2,.int .i64 0] rfl rfl t9 (by kernel_rfl) (by kernel_rfl) ?_
      refine wpAny_done (by kernel_rfl) ?_ _
      go_wp2
      go_meet
      case rel=>exact ⟨_,_,rfl,rfl,k8,k9⟩
     exact AllReady.nil
    exact AllReady.nil
   exact AllReady.nil
  refine AllReady.cons rfl (fun K hK=>?_) ?_
  ·go_simp
   refine hK _ _ ?_
   clear hK K
   refine wpAny_ready (rs:=[0,7]) (by kernel_rfl) (by simp) ?_
   refine AllReady.cons rfl (fun K hK=>?_) ?_
   ·go_simp
    refine (HA.out _).mono ?_
    rintro e w5 ⟨hb5r,R5,rfl,t1,t2,t3⟩
    have hb5:=bel_next (show Below W4.heap.size W4 _ from (one_alloc _ _).drew) hb5r
    have j3:=al3d hb5r
    refine hK _ _ ?_
    clear hK K hb5r
    refine wpAny_ready (rs:=[3,7]) (by kernel_rfl) (by simp) ?_
    refine AllReady.cons rfl (fun K hK=>?_) ?_
    ·go_simp
     refine Calls.mono (HQ4.out w5 hb5 R5 t1 t2 t3 _ (Below.refl _ _)) ?_
     rintro e w6 ⟨hb6r,rfl⟩
     have hb56:=bel_next (show Below w5.heap.size w5 _ from Below.refl _ _) hb6r
     have hb6:=bel_next hb5 hb56
     have hl56:=hb56.size
     have l3:=j3.lt
     replace j3:=j3.on hb56
     refine hK _ _ ?_
     clear hK K hb6r
     refine wpAny_take (i:=4) (v:=.tuple #[nilV,.agg #[.int .i64 2,.int .i64 2,.int .i64 0]]) rfl (by kernel_rfl) (by kernel_rfl) (by kernel_rfl) (fun _ _ _ h=>h) (Or.inl ⟨by rfl,by intro w;rfl⟩) ?_
     refine wpAny_take (i:=5) (v:=nilV) rfl (by kernel_rfl) (by kernel_rfl) (by kernel_rfl) (fun _ _ _ h=>h) (Or.inl ⟨by rfl,by intro w;rfl⟩) ?_
     refine wpAny_take (i:=6) (v:=.agg #[.int .i64 2,.int .i64 2,.int .i64 0]) rfl (by kernel_rfl) (by kernel_rfl) (by kernel_rfl) (fun _ _ _ h=>h) (Or.inl ⟨by rfl,by intro w;rfl⟩) ?_
     refine wpAny_ready (rs:=[7]) (by kernel_rfl) (by simp) ?_
     refine AllReady.cons rfl (fun K hK=>?_) ?_
     ·go_simp
      refine hK _ _ ?_
      clear hK K
      have c7:=al7 (A:=w6) (Below.refl _ _)
      have c3:=j3.on (one_alloc w6 (.cells #[.int .i64 0,.int .i64 0,.string ⟨#[]⟩,.slice none 0 0,.slice none 0 0,.slice none 0 0,.int .i64 0] 39))
      have hbl:=bel_next hb6 (one_alloc w6 (.cells #[.int .i64 0,.int .i64 0,.string ⟨#[]⟩,.slice none 0 0,.slice none 0 0,.slice none 0 0,.int .i64 0] 39))
      obtain ⟨t8,t9,k8,k9⟩:=FIN.out _ _ _ (by have:=hb5.size;omega) (by have:=hb5.size;omega) (by omega) c7 c3 hbl
      refine wpAny_store (i:=9) (by kernel_rfl) rfl (by kernel_rfl) 39 (.tmp 5) (.tmp 22) rfl _ 0 #[.int .i64 0,.int .i64 0,.string ⟨#[]⟩,.slice none 0 0,.slice none 0 0,.slice none 0 0,.int .i64 0] rfl rfl t8 (by kernel_rfl) (by kernel_rfl) ?_
      refine wpAny_store (i:=10) (by kernel_rfl) rfl (by kernel_rfl) 28 (.tmp 6) (.tmp 23) rfl _ 0 #[.int .i64 2,.int .i64 2,.int .i64 0] rfl rfl t9 (by kernel_rfl) (by kernel_rfl) ?_
      refine wpAny_done (by kernel_rfl) ?_ _
      go_wp2
      go_meet
      case rel=>exact ⟨_,_,rfl,rfl,k8,k9⟩
     exact AllReady.nil
    refine AllReady.cons rfl (fun K hK=>?_) ?_
    ·go_simp
     refine hK _ _ ?_
     clear hK K
     refine wpAny_ready (rs:=[3]) (by kernel_rfl) (by simp) ?_
     refine AllReady.cons rfl (fun K hK=>?_) ?_
     ·go_simp
      refine Calls.mono (HQ4.out w5 hb5 R5 t1 t2 t3 _ (one_alloc _ _)) ?_
      rintro e w6 ⟨hb6r,rfl⟩
      have hb56:=bel_next (show Below w5.heap.size w5 _ from one_alloc _ _) hb6r
      have hb6:=bel_next hb5 hb56
      have hl56:=hb56.size
      have l3:=j3.lt
      replace j3:=j3.on hb56
      have j7:=al7 hb6r
      have l7:=j7.lt
      refine hK _ _ ?_
      clear hK K hb6r
      refine wpAny_take (i:=4) (v:=.tuple #[nilV,.agg #[.int .i64 2,.int .i64 2,.int .i64 0]]) rfl (by kernel_rfl) (by kernel_rfl) (by kernel_rfl) (fun _ _ _ h=>h) (Or.inl ⟨by rfl,by intro w;rfl⟩) ?_
      refine wpAny_take (i:=5) (v:=nilV) rfl (by kernel_rfl) (by kernel_rfl) (by kernel_rfl) (fun _ _ _ h=>h) (Or.inl ⟨by rfl,by intro w;rfl⟩) ?_
      refine wpAny_take (i:=6) (v:=.agg #[.int .i64 2,.int .i64 2,.int .i64 0]) rfl (by kernel_rfl) (by kernel_rfl) (by kernel_rfl) (fun _ _ _ h=>h) (Or.inl ⟨by rfl,by intro w;rfl⟩) ?_
      have c7:=j7
      have c3:=j3
      have hbl:=hb6
      obtain ⟨t8,t9,k8,k9⟩:=FIN.out _ _ _ (by have:=hb5.size;omega) (by have:=hb5.size;omega) (by omega) c7 c3 hbl
      refine wpAny_store (i:=9) (by kernel_rfl) rfl (by kernel_rfl) 39 (.tmp 5) (.tmp 22) rfl _ 0 #[.int .i64 0,.int .i64 0,.string ⟨#[]⟩,.slice none 0 0,.slice none 0 0,.slice none 0 0,.int .i64 0] rfl rfl t8 (by kernel_rfl) (by kernel_rfl) ?_
      refine wpAny_store (i:=10) (by kernel_rfl) rfl (by kernel_rfl) 28 (.tmp 6) (.tmp 23) rfl _ 0 #[.int .i64 2,.int .i64 2,.int .i64 0] rfl rfl t9 (by kernel_rfl) (by kernel_rfl) ?_
      refine wpAny_done (by kernel_rfl) ?_ _
      go_wp2
      go_meet
      case rel=>exact ⟨_,_,rfl,rfl,k8,k9⟩
     exact AllReady.nil
    exact AllReady.nil
   refine AllReady.cons rfl (fun K hK=>?_) ?_
   ·go_simp
    refine hK _ _ ?_
    clear hK K
    refine wpAny_ready (rs:=[0]) (by kernel_rfl) (by simp) ?_
    refine AllReady.cons rfl (fun K hK=>?_) ?_
    ·go_simp
     refine (HA.out _).mono ?_
     rintro e w5 ⟨hb5r,R5,rfl,t1,t2,t3⟩
     have hb5:=bel_next (show Below W4.heap.size W4 _ from (two_allocs _ _ _).drew) hb5r
     obtain ⟨j7,j3⟩:=al37d hb5r
     refine hK _ _ ?_
     clear hK K hb5r
     refine wpAny_ready (rs:=[3]) (by kernel_rfl) (by simp) ?_
     refine AllReady.cons rfl (fun K hK=>?_) ?_
     ·go_simp
      refine Calls.mono (HQ4.out w5 hb5 R5 t1 t2 t3 _ (Below.refl _ _)) ?_
      rintro e w6 ⟨hb6r,rfl⟩
      have hb56:=bel_next (show Below w5.heap.size w5 _ from Below.refl _ _) hb6r
      have hb6:=bel_next hb5 hb56
      have hl56:=hb56.size
      have l3:=j3.lt
      replace j3:=j3.on hb56
      have l7:=j7.lt
      replace j7:=j7.on hb56
      refine hK _ _ ?_
      clear hK K hb6r
      refine wpAny_take (i:=4) (v:=.tuple #[nilV,.agg #[.int .i64 2,.int .i64 2,.int .i64 0]]) rfl (by kernel_rfl) (by kernel_rfl) (by kernel_rfl) (fun _ _ _ h=>h) (Or.inl ⟨by rfl,by intro w;rfl⟩) ?_
      refine wpAny_take (i:=5) (v:=nilV) rfl (by kernel_rfl) (by kernel_rfl) (by kernel_rfl) (fun _ _ _ h=>h) (Or.inl ⟨by rfl,by intro w;rfl⟩) ?_
      refine wpAny_take (i:=6) (v:=.agg #[.int .i64 2,.int .i64 2,.int .i64 0]) rfl (by kernel_rfl) (by kernel_rfl) (by kernel_rfl) (fun _ _ _ h=>h) (Or.inl ⟨by rfl,by intro w;rfl⟩) ?_
      have c7:=j7
      have c3:=j3
      have hbl:=hb6
      obtain ⟨t8,t9,k8,k9⟩:=FIN.out _ _ _ (by have:=hb5.size;omega) (by have:=hb5.size;omega) (by omega) c7 c3 hbl
      refine wpAny_store (i:=9) (by kernel_rfl) rfl (by kernel_rfl) 39 (.tmp 5) (.tmp 22) rfl _ 0 #[.int .i64 0,.int .i64 0,.string ⟨#[]⟩,.slice none 0 0,.slice none 0 0,.slice none 0 0,.int .i64 0] rfl rfl t8 (by kernel_rfl) (by kernel_rfl) ?_
      refine wpAny_store (i:=10) (by kernel_rfl) rfl (by kernel_rfl) 28 (.tmp 6) (.tmp 23) rfl _ 0 #[.int .i64 2,.int .i64 2,.int .i64 0] rfl rfl t9 (by kernel_rfl) (by kernel_rfl) ?_
      refine wpAny_done (by kernel_rfl) ?_ _
      go_wp2
      go_meet
      case rel=>exact ⟨_,_,rfl,rfl,k8,k9⟩
     exact AllReady.nil
    exact AllReady.nil
   exact AllReady.nil
  exact AllReady.nil
 case rest =>
  obtain ⟨p,q,rfl,rfl,hbc,z0,z1⟩:=hcut
  obtain ⟨hb9,q0,q1,q2,b,rfl,q3⟩:=KS.out _ hbc
  clear HQ4 FIN HA KS HD0
  go_wp2
  go_ret
  exact ⟨rfl,HBW.out.trans (Below.mono hbc HBW.out.size)⟩
end Go.Proofs.Ytnaejfoighmfeaa.Rn
