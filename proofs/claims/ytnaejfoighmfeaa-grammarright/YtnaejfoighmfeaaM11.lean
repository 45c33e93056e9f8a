import Derived.Test.YtnaejfoighmfeaaM10
import Derived.Laws.BitsAllLaws
import Derived.Lib.Bits
import Derived.Test.YtnaejfoighmfeaaChecked
import GoSem.Claim
import GoSem.ClaimJoined
import GoSem.ClaimMapViews
import Derived.JoinedTies
import Derived.KernelRfl
import Derived.WalkKit
import Derived.ProofKit
import Derived.Below
import Derived.Deep.QuietTactic
import Derived.BigQuiet
import Derived.Lib.SlBytesConst
import Derived.Laws.BytesArg
import Derived.Laws.MakeOwn
import Derived.Deep.RegionHeld3
import Derived.Laws.AppendOwnNone
import Derived.BigFrame
import Derived.OpenShut
import Derived.ChangeOld
import Derived.SizedLaws
import Derived.Deep.DeepHandedRow
import Derived.Lib.LaidTab
import Derived.Deep.OwnRows
import Derived.Deep.RegionWith
import Derived.Deep.Slices
import Derived.Deep.Strs
import Derived.Deep.LoopGhost
import Derived.Lib.ConvBytes
import Derived.Deep.RegionLaw
import Derived.Deep.CutRange
import Derived.Lib.SliceRun
import Derived.WalkLawsBesides
import Derived.Maps.AppendAt
import Derived.Deep.MidRow
import Derived.Defers
import Derived.Recover
import Derived.Deep.Cut
import Derived.ChangeMaps5
namespace Go.Proofs.Ytnaejfoighmfeaa.Rn
open Go.ChangeShapes Go.WideShapes Go.ChangeAt Go.RowKit
set_option maxRecDepth 100000
set_option linter.unusedVariables false
set_option linter.unusedSimpArgs false
def GvY (w:World) (e:Ending) (w':World):Prop:=Below w.heap.size w w'∧∃ (ws:List Wo) (a:Option Addr) (c:Nat) (er pl:Int),e=.returned (.tuple #[.slice a ws.length c,.agg #[.int .i64 er,.int .i64 pl,.int .i64 0]])∧ws.length≤c∧WoK w.heap.size w' a ws
theorem GvX.words {F:Rs (List Wo)} {w w':World} {e:Ending} (h:GvX F w e w'):GvY w e w':=by
 refine ⟨h.1,?_⟩
 cases F with
|ok ws =>
  obtain ⟨-,a,c,he,hc,hw⟩:=h
  exact ⟨ws,a,c,0,0,he,hc,hw⟩
|bad er p=>exact ⟨[],none,0,er,p,h.2,Nat.le_refl _,fun W _ _ i hi=>absurd hi (by simp)⟩
|stuck=>exact h.2.elim
abbrev z14:List Value:=[.slice none 0 0,.slice none 0 0,.slice none 0 0,.string ⟨#[]⟩,.string ⟨#[]⟩,.string ⟨#[]⟩,.string ⟨#[]⟩,.string ⟨#[]⟩,.string ⟨#[]⟩,.string ⟨#[]⟩,.string ⟨#[]⟩,.bool false,.bool false,.bool false]
def GvLx (w:World) (e:Ending) (w':World):Prop:=Below w.heap.size w w'∧∃ (g:Gr) (R:Raw) (ws:List Wo) (a:Option Addr) (c:Nat) (er pl:Int),e=.returned (.tuple #[gV g R,.slice a ws.length c,.agg #[.int .i64 er,.int .i64 pl,.int .i64 0]])∧ws.length≤c∧WoR 1 w' a ws∧(g=aplG∨g=jG∨g=kG)∧StrsIn w' R.av g.verbs∧StrsIn w' R.aa g.adverbs∧StrsIn w' R.ab g.behind
theorem lt3 {w:World} {b:Nat} {v0 v1 v2:Value} (h:Cs w b [v0,v1,v2]):(w.cell? ⟨b,0,none⟩=some v0∧w.cell? ⟨b,1,none⟩=some v1∧w.cell? ⟨b,2,none⟩=some v2)∧b<w.heap.size∧∀ k,w.frozen? ⟨b,k,none⟩=false :=
 ⟨⟨h.c 0 _ rfl,h.c 1 _ rfl,h.c 2 _ rfl⟩,h.lt,h.z⟩
theorem fin2 {w V W8 W9:World} {us ts vs rs:List Value} (R:Cs V w.heap.size us) (F:Cs V (w.heap.size+1) ts) (hl:vs.length≤us.length) (hk:rs.length≤ts.length) (hb:Below w.heap.size w V) (h8:V.setCells w.heap.size 0 vs=W8) (h9:W8.setCells (w.heap.size+1) 0 rs=W9) :
  V.there w.heap.size 0 vs.length∧W8.there (w.heap.size+1) 0 rs.length∧Cs W9 w.heap.size vs∧Cs W9 (w.heap.size+1) rs∧Below w.heap.size w W9∧(∀ lo,w.heap.size+2≤lo→Keeps lo V W9)∧V.heap.size≤W9.heap.size∧(∀ k,k<V.heap.size→k≠w.heap.size→k≠w.heap.size+1→W9.heap[k]?=V.heap[k]?)∧∀ b xs,Cs V b xs→b≠w.heap.size→Cs W8 b xs:=by
 obtain ⟨a1,a2,a3,a4,a5,a6⟩:=put53 R F hl hk hb h8 h9
 obtain ⟨C8,B8⟩:=R.put hl h8
 have F8:=F.but B8 (by show ¬ w.heap.size+1=w.heap.size;omega)
 obtain ⟨C9,B9⟩:=F8.put hk h9
 exact ⟨a1,a2,a3,a4,a5,a6,Nat.le_trans B8.size B9.size,fun k h1 h2 h3=>(B9.block (Nat.lt_of_lt_of_le h1 B8.size) h3).trans (B8.block h1 h2),fun b xs h hn=>h.but B8 hn⟩
theorem if_yes {c:Prop} [Decidable c] {A B:Prop} (hc:c) (h:A):if c then A else B:=by rw [if_pos hc];exact h
theorem lex_fin {w W2 V w5 W9:World} {g:Gr} {R:Raw} {ws:List Wo} {a:Option Addr} {c:Nat} {er pl:Int} (hb2:Below w.heap.size w W2) (hs2:W2.heap.size=w.heap.size+2) (hbV:Below W2.heap.size W2 V) (hb5:Below V.heap.size V w5) (hwr:WoK (w.heap.size+2) V a ws) (hc:ws.length≤c) (t1:StrsK V.heap.size w5 R.av g.verbs) (t2:StrsK V.heap.size w5 R.aa g.adverbs) (t3:StrsK V.heap.size w5 R.ab g.behind) (hg:g=aplG∨g=jG∨g=kG) (B9:Below w.heap.size w W9) (S9:w5.heap.size≤W9.heap.size) (H9:∀ k,k<w5.heap.size→k≠w.heap.size→k≠w.heap.size+1→W9.heap[k]?=w5.heap[k]?):GvLx w (.returned (.tuple #[gV g R,.slice a ws.length c,.agg #[.int .i64 er,.int .i64 pl,.int .i64 0]])) W9:=by
 have hv:=hbV.size
 have h5:=hb5.size
 have hk:W9.heap.size ≥ w5.heap.size∧∀ k,V.heap.size≤k→k<w5.heap.size→W9.heap[k]?=w5.heap[k]?:=⟨S9,fun k h1 h2=>H9 k h2 (by omega) (by omega)⟩
 refine ⟨B9,g,R,ws,a,c,er,pl,rfl,hc,?_,hg,t1 W9 hk,t2 W9 hk,t3 W9 hk⟩
 exact hwr W9 (Nat.le_trans h5 S9) fun k h1 h2=>(H9 k (Nat.lt_of_lt_of_le h2 h5) (by omega) (by omega)).trans (hb5.block k h2)
set_option maxHeartbeats 8000000 in
theorem lex6 (d:Int) (s:ByteArray) (w:World):Calls Try.prog 6 #[.int .i64 d,.string s] w fun e w'=>GvLx w e w':=by
 obtain ⟨W2,hW2⟩:∃ W2,(w.alloc (.cells #[.slice none 0 0,.slice none 0 0,.slice none 0 0,.string ⟨#[]⟩,.string ⟨#[]⟩,.string ⟨#[]⟩,.string ⟨#[]⟩,.string ⟨#[]⟩,.string ⟨#[]⟩,.string ⟨#[]⟩,.string ⟨#[]⟩,.bool false,.bool false,.bool false] 24)).alloc (.cells #[.int .i64 0,.int .i64 0,.int .i64 0] 28)=W2:=⟨_,rfl⟩
 have hs1:(w.alloc (.cells #[.slice none 0 0,.slice none 0 0,.slice none 0 0,.string ⟨#[]⟩,.string ⟨#[]⟩,.string ⟨#[]⟩,.string ⟨#[]⟩,.string ⟨#[]⟩,.string ⟨#[]⟩,.string ⟨#[]⟩,.string ⟨#[]⟩,.bool false,.bool false,.bool false] 24)).heap.size=w.heap.size+1:=by simp
 have b2:Below w.heap.size w W2:=by rw [←hW2];exact two_allocs _ _ _
 have s2:W2.heap.size=w.heap.size+2:=by rw [←hW2];simp
 have R2:Cs W2 w.heap.size z14:=by rw [←hW2];exact (Cs.new w z14 24).next (one_alloc _ _) (by simp)
 have F2:Cs W2 (w.heap.size+1) [.int .i64 0,.int .i64 0,.int .i64 0]:=by
  have h:=Cs.new (w.alloc (.cells #[.slice none 0 0,.slice none 0 0,.slice none 0 0,.string ⟨#[]⟩,.string ⟨#[]⟩,.string ⟨#[]⟩,.string ⟨#[]⟩,.string ⟨#[]⟩,.string ⟨#[]⟩,.string ⟨#[]⟩,.string ⟨#[]⟩,.bool false,.bool false,.bool false] 24)) [.int .i64 0,.int .i64 0,.int .i64 0] 28
  rw [hs1] at h
  rw [←hW2];exact h
 have HB2:=hide b2
 have HS2:=hide s2
 have HR2:=hide R2
 have HF2:=hide F2
 have HW2:=hide hW2
 have H12:Hid (Calls Try.prog 12 #[.string s] W2 fun e w'=>GvY W2 e w'):=(lex12 s W2).mono fun e w' h=>h.words
 have H14:Hid (Calls Try.prog 14 #[.string s] W2 fun e w'=>GvY W2 e w'):=(lex14 s W2).mono fun e w' h=>by obtain ⟨F,h⟩:=h;exact h.words
 have H16:Hid (Calls Try.prog 16 #[.string s] W2 fun e w'=>GvY W2 e w'):=(lex16 s W2).mono fun e w' h=>by obtain ⟨F,h⟩:=h;exact h.words
 have HA:Hid (∀ W,Calls Try.prog 13 #[] W fun e w'=>GvB aplG W e w'):=fun W=>aplB
 have HJ:Hid (∀ W,Calls Try.prog 15 #[] W fun e w'=>GvB jG W e w'):=fun W=>jB
 have HK:Hid (∀ W,Calls Try.prog 17 #[] W fun e w'=>GvB kG W e w'):=fun W=>kB
 clear hW2 hs1 b2 s2 R2 F2
 go_enter Try.func6,Try.ntmps6
 go_upto_region 1 with fail
 rw [HW2.out]
 clear HW2
 go_wp2_with fail
 ·refine H12.out.mono ?_
  rintro e w1 ⟨hb1,ws,a,c,er,pl,rfl,hc,hwr⟩
  go_upto_region 4 with fail
  obtain ⟨V,hV⟩:∃ V,w1.alloc (.cells #[.int .i64 er,.int .i64 pl,.int .i64 0] 28)=V:=⟨_,rfl⟩
  have bV:Below w1.heap.size w1 V:=by rw [←hV];exact one_alloc _ _
  have DV:Cs V w1.heap.size [.int .i64 er,.int .i64 pl,.int .i64 0]:=by rw [←hV];exact Cs.new w1 [.int .i64 er,.int .i64 pl,.int .i64 0] 28
  have HB1:=hide (bel_to hb1 bV)
  have HBA:=hide (bel_to hb1 bV)
  have HWV:=hide (show WoK (w.heap.size+2) V a ws by have h:=WoK.next hwr bV;rw [HS2.out] at h;exact h)
  have HC:=hide hc
  have x0:=DV.c 0 _ rfl
  have x1:=DV.c 1 _ rfl
  have x2:=DV.c 2 _ rfl
  have HDV:=hide DV
  have HNL:=hide hb1.size
  rw [hV]
  clear hV bV DV hb1 hwr hc H12 H14 H16
  refine wp_region_any (by kernel_rfl) ?_
  change wpAny _ _ _ _ _ _ _ (World.drew _)
  refine wpAny_take (i:=1) (v:=.slice a ws.length c) rfl (by kernel_rfl) (by kernel_rfl) (by kernel_rfl) (fun _ _ _ h=>h) (Or.inl ⟨by rfl,by intro w;rfl⟩) ?_
  refine wpAny_ready (rs:=[0,2]) (by kernel_rfl) (by simp) ?_
  refine AllReady.cons rfl (fun K hK=>?_) ?_
  ·go_simp
   refine (HA.out _).mono ?_
   rintro e w5 ⟨hb5,R5,rfl,t1,t2,t3,tb⟩
   have hb5w:=bel_to (Below.refl V.heap.size V).drew hb5
   have hw5:=bel_to HB1.out hb5w
   refine hK _ _ ?_
   clear hK K hb5
   obtain ⟨W8,hW8⟩:∃ W8,w5.setCells w.heap.size 0 [.slice R5.av aplG.verbs.length R5.cv,.slice R5.aa aplG.adverbs.length R5.ca,.slice R5.ab aplG.behind.length R5.cb,.string aplG.outer,.string aplG.power,.string aplG.opn,.string aplG.cls,.string aplG.left,.string aplG.right,.string R5.mi,.string R5.qu,.bool aplG.trains,.bool aplG.lone,.bool aplG.square]=W8:=⟨_,rfl⟩
   obtain ⟨W9,hW9⟩:∃ W9,W8.setCells (w.heap.size+1) 0 [.int .i64 er,.int .i64 pl,.int .i64 0]=W9:=⟨_,rfl⟩
   obtain ⟨t8,t9,C9,D9,B9,K9,S9,H9,X8⟩:=fin2 (HR2.out.next hw5 HR2.out.lt) (HF2.out.next hw5 HF2.out.lt) (by simp) (by simp) (bel_to HB2.out hw5) hW8 hW9
   have HDW:=hide (X8 _ _ (HDV.out.next hb5w HDV.out.lt) (by have:=HNL.out;have:=HS2.out;omega))
   have hfin:=lex_fin (g:=aplG) (R:=R5) (ws:=ws) (a:=a) (c:=c) (er:=er) (pl:=pl) HB2.out HS2.out HBA.out hb5w HWV.out HC.out (StrsK.of t1 fun b off h=>tb b off (Or.inl h)) (StrsK.of t2 fun b off h=>tb b off (Or.inr (Or.inl h))) (StrsK.of t3 fun b off h=>tb b off (Or.inr (Or.inr h))) (Or.inl rfl) B9 S9 H9
   have HW8':Hid (w5.setCells w.heap.size 0 (#[.slice R5.av aplG.verbs.length R5.cv,.slice R5.aa aplG.adverbs.length R5.ca,.slice R5.ab aplG.behind.length R5.cb,.string aplG.outer,.string aplG.power,.string aplG.opn,.string aplG.cls,.string aplG.left,.string aplG.right,.string R5.mi,.string R5.qu,.bool aplG.trains,.bool aplG.lone,.bool aplG.square]:Array Value).toList=W8):=hW8
   have HW9':Hid (W8.setCells (w.heap.size+1) 0 (#[.int .i64 er,.int .i64 pl,.int .i64 0]:Array Value).toList=W9):=hW9
   have HT8:=hide t8
   have HT9:=hide t9
   have HC9:=hide C9
   have HD9:=hide D9
   have HFN:=hide hfin
   clear t8 t9 C9 D9 B9 K9 S9 H9 X8 hW8 hW9 hfin x0 x1 x2 t1 t2 t3 tb HBA HWV HC HF2 HB2 HA HJ HK
   obtain ⟨⟨y0,y1,y2⟩,yl,yz⟩:=lt3 (HDV.out.next hb5w HDV.out.lt)
   refine wpAny_ready (rs:=[2,3]) (by kernel_rfl) (by simp) ?_
   refine AllReady.cons rfl (fun K hK=>?_) ?_
   ·go_simp
    refine hK _ _ ?_
    clear hK K y0 y1 y2 yl yz
    refine wpAny_store (i:=3) (by kernel_rfl) rfl (by kernel_rfl) 24 (.tmp 4) (.tmp 24) rfl w.heap.size 0 #[.slice R5.av aplG.verbs.length R5.cv,.slice R5.aa aplG.adverbs.length R5.ca,.slice R5.ab aplG.behind.length R5.cb,.string aplG.outer,.string aplG.power,.string aplG.opn,.string aplG.cls,.string aplG.left,.string aplG.right,.string R5.mi,.string R5.qu,.bool aplG.trains,.bool aplG.lone,.bool aplG.square] rfl rfl HT8.out (by kernel_rfl) (by kernel_rfl) ?_
    rw [HW8'.out]
    refine wpAny_take (i:=4) (v:=.slice a ws.length c) rfl (by kernel_rfl) (by kernel_rfl) (by kernel_rfl) (fun _ _ _ h=>h) (Or.inl ⟨by rfl,by intro w;rfl⟩) ?_
    refine wpAny_store (i:=5) (by kernel_rfl) rfl (by kernel_rfl) 28 (.tmp 6) (.tmp 26) rfl (w.heap.size+1) 0 #[.int .i64 er,.int .i64 pl,.int .i64 0] rfl rfl HT9.out (by kernel_rfl) (by kernel_rfl) ?_
    rw [HW9'.out]
    refine wpAny_done (by kernel_rfl) ?_ _
    clear hb5w hw5 HB1 HDV HR2 HS2 HDW HT8 HT9 HW8' HW9'
    go_wp2
    have r0:=HC9.out.c 0 _ rfl
    have r1:=HC9.out.c 1 _ rfl
    have r2:=HC9.out.c 2 _ rfl
    have r3:=HC9.out.c 3 _ rfl
    have r4:=HC9.out.c 4 _ rfl
    have r5:=HC9.out.c 5 _ rfl
    have r6:=HC9.out.c 6 _ rfl
    have r7:=HC9.out.c 7 _ rfl
    have r8:=HC9.out.c 8 _ rfl
    have r9:=HC9.out.c 9 _ rfl
    have r10:=HC9.out.c 10 _ rfl
    have r11:=HC9.out.c 11 _ rfl
    have r12:=HC9.out.c 12 _ rfl
    have r13:=HC9.out.c 13 _ rfl
    have q0:=HD9.out.c 0 _ rfl
    have q1:=HD9.out.c 1 _ rfl
    have q2:=HD9.out.c 2 _ rfl
    exact bodyPost_ret (v:=.tuple #[.agg #[.slice R5.av aplG.verbs.length R5.cv,.slice R5.aa aplG.adverbs.length R5.ca,.slice R5.ab aplG.behind.length R5.cb,.string aplG.outer,.string aplG.power,.string aplG.opn,.string aplG.cls,.string aplG.left,.string aplG.right,.string R5.mi,.string R5.qu,.bool aplG.trains,.bool aplG.lone,.bool aplG.square],.slice a ws.length c,.agg #[.int .i64 er,.int .i64 pl,.int .i64 0]]) (by simp [results,Try.results6,go_sem,r0,r1,r2,r3,r4,r5,r6,r7,r8,r9,r10,r11,r12,r13,q0,q1,q2]) rfl HFN.out
   refine AllReady.cons rfl (fun K hK=>?_) AllReady.nil
   ·refine if_yes (by kernel_rfl) (wp_store_mid 24 (.tmp 4) (.tmp 24) rfl w.heap.size 0 #[.slice R5.av aplG.verbs.length R5.cv,.slice R5.aa aplG.adverbs.length R5.ca,.slice R5.ab aplG.behind.length R5.cb,.string aplG.outer,.string aplG.power,.string aplG.opn,.string aplG.cls,.string aplG.left,.string aplG.right,.string R5.mi,.string R5.qu,.bool aplG.trains,.bool aplG.lone,.bool aplG.square] rfl rfl HT8.out (by kernel_rfl) (by kernel_rfl) ?_)
    rw [HW8'.out]
    refine hK _ _ ?_
    clear hK K y0 y1 y2 yl yz
    refine wpAny_take (i:=4) (v:=.slice a ws.length c) rfl (by kernel_rfl) (by kernel_rfl) (by kernel_rfl) (fun _ _ _ h=>h) (Or.inl ⟨by rfl,by intro w;rfl⟩) ?_
    obtain ⟨⟨y0,y1,y2⟩,yl,yz⟩:=lt3 HDW.out
    refine wpAny_ready (rs:=[2]) (by kernel_rfl) (by simp) ?_
    refine AllReady.cons rfl (fun K hK=>?_) AllReady.nil
    go_simp
    refine hK _ _ ?_
    clear hK K y0 y1 y2 yl yz
    refine wpAny_store (i:=5) (by kernel_rfl) rfl (by kernel_rfl) 28 (.tmp 6) (.tmp 26) rfl (w.heap.size+1) 0 #[.int .i64 er,.int .i64 pl,.int .i64 0] rfl rfl HT9.out (by kernel_rfl) (by kernel_rfl) ?_
    rw [HW9'.out]
    refine wpAny_done (by kernel_rfl) ?_ _
    clear hb5w hw5 HB1 HDV HR2 HS2 HDW HT8 HT9 HW8' HW9'
    go_wp2
    have r0:=HC9.out.c 0 _ rfl
    have r1:=HC9.out.c 1 _ rfl
    have r2:=HC9.out.c 2 _ rfl
    have r3:=HC9.out.c 3 _ rfl
    have r4:=HC9.out.c 4 _ rfl
    have r5:=HC9.out.c 5 _ rfl
    have r6:=HC9.out.c 6 _ rfl
    have r7:=HC9.out.c 7 _ rfl
    have r8:=HC9.out.c 8 _ rfl
    have r9:=HC9.out.c 9 _ rfl
    have r10:=HC9.out.c 10 _ rfl
    have r11:=HC9.out.c 11 _ rfl
    have r12:=HC9.out.c 12 _ rfl
    have r13:=HC9.out.c 13 _ rfl
    have q0:=HD9.out.c 0 _ rfl
    have q1:=HD9.out.c 1 _ rfl
    have q2:=HD9.out.c 2 _ rfl
    exact bodyPost_ret (v:=.tuple #[.agg #[.slice R5.av aplG.verbs.length R5.cv,.slice R5.aa aplG.adverbs.length R5.ca,.slice R5.ab aplG.behind.length R5.cb,.string aplG.outer,.string aplG.power,.string aplG.opn,.string aplG.cls,.string aplG.left,.string aplG.right,.string R5.mi,.string R5.qu,.bool aplG.trains,.bool aplG.lone,.bool aplG.square],.slice a ws.length c,.agg #[.int .i64 er,.int .i64 pl,.int .i64 0]]) (by simp [results,Try.results6,go_sem,r0,r1,r2,r3,r4,r5,r6,r7,r8,r9,r10,r11,r12,r13,q0,q1,q2]) rfl HFN.out
  refine AllReady.cons rfl (fun K hK=>?_) AllReady.nil
  ·go_simp
   refine hK _ _ ?_
   clear hK K
   refine wpAny_ready (rs:=[0]) (by kernel_rfl) (by simp) ?_
   refine AllReady.cons rfl (fun K hK=>?_) AllReady.nil
   go_simp
   refine (HA.out _).mono ?_
   rintro e w5 ⟨hb5,R5,rfl,t1,t2,t3,tb⟩
   have hb5w:=bel_to (Below.refl V.heap.size V).drew hb5
   have hw5:=bel_to HB1.out hb5w
   refine hK _ _ ?_
   clear hK K hb5
   obtain ⟨W8,hW8⟩:∃ W8,w5.setCells w.heap.size 0 [.slice R5.av aplG.verbs.length R5.cv,.slice R5.aa aplG.adverbs.length R5.ca,.slice R5.ab aplG.behind.length R5.cb,.string aplG.outer,.string aplG.power,.string aplG.opn,.string aplG.cls,.string aplG.left,.string aplG.right,.string R5.mi,.string R5.qu,.bool aplG.trains,.bool aplG.lone,.bool aplG.square]=W8:=⟨_,rfl⟩
   obtain ⟨W9,hW9⟩:∃ W9,W8.setCells (w.heap.size+1) 0 [.int .i64 er,.int .i64 pl,.int .i64 0]=W9:=⟨_,rfl⟩
   obtain ⟨t8,t9,C9,D9,B9,K9,S9,H9,X8⟩:=fin2 (HR2.out.next hw5 HR2.out.lt) (HF2.out.next hw5 HF2.out.lt) (by simp) (by simp) (bel_to HB2.out hw5) hW8 hW9
   have HDW:=hide (X8 _ _ (HDV.out.next hb5w HDV.out.lt) (by have:=HNL.out;have:=HS2.out;omega))
   have hfin:=lex_fin (g:=aplG) (R:=R5) (ws:=ws) (a:=a) (c:=c) (er:=er) (pl:=pl) HB2.out HS2.out HBA.out hb5w HWV.out HC.out (StrsK.of t1 fun b off h=>tb b off (Or.inl h)) (StrsK.of t2 fun b off h=>tb b off (Or.inr (Or.inl h))) (StrsK.of t3 fun b off h=>tb b off (Or.inr (Or.inr h))) (Or.inl rfl) B9 S9 H9
   have HW8':Hid (w5.setCells w.heap.size 0 (#[.slice R5.av aplG.verbs.length R5.cv,.slice R5.aa aplG.adverbs.length R5.ca,.slice R5.ab aplG.behind.length R5.cb,.string aplG.outer,.string aplG.power,.string aplG.opn,.string aplG.cls,.string aplG.left,.string aplG.right,.string R5.mi,.string R5.qu,.bool aplG.trains,.bool aplG.lone,.bool aplG.square]:Array Value).toList=W8):=hW8
   have HW9':Hid (W8.setCells (w.heap.size+1) 0 (#[.int .i64 er,.int .i64 pl,.int .i64 0]:Array Value).toList=W9):=hW9
   have HT8:=hide t8
   have HT9:=hide t9
   have HC9:=hide C9
   have HD9:=hide D9
   have HFN:=hide hfin
   clear t8 t9 C9 D9 B9 K9 S9 H9 X8 hW8 hW9 hfin x0 x1 x2 t1 t2 t3 tb HBA HWV HC HF2 HB2 HA HJ HK
   refine wpAny_store (i:=3) (by kernel_rfl) rfl (by kernel_rfl) 24 (.tmp 4) (.tmp 24) rfl w.heap.size 0 #[.slice R5.av aplG.verbs.length R5.cv,.slice R5.aa aplG.adverbs.length R5.ca,.slice R5.ab aplG.behind.length R5.cb,.string aplG.outer,.string aplG.power,.string aplG.opn,.string aplG.cls,.string aplG.left,.string aplG.right,.string R5.mi,.string R5.qu,.bool aplG.trains,.bool aplG.lone,.bool aplG.square] rfl rfl HT8.out (by kernel_rfl) (by kernel_rfl) ?_
   rw [HW8'.out]
   refine wpAny_take (i:=4) (v:=.slice a ws.length c) rfl (by kernel_rfl) (by kernel_rfl) (by kernel_rfl) (fun _ _ _ h=>h) (Or.inl ⟨by rfl,by intro w;rfl⟩) ?_
   refine wpAny_store (i:=5) (by kernel_rfl) rfl (by kernel_rfl) 28 (.tmp 6) (.tmp 26) rfl (w.heap.size+1) 0 #[.int .i64 er,.int .i64 pl,.int .i64 0] rfl rfl HT9.out (by kernel_rfl) (by kernel_rfl) ?_
   rw [HW9'.out]
   refine wpAny_done (by kernel_rfl) ?_ _
   clear hb5w hw5 HB1 HDV HR2 HS2 HDW HT8 HT9 HW8' HW9'
   go_wp2
   have r0:=HC9.out.c 0 _ rfl
   have r1:=HC9.out.c 1 _ rfl
   have r2:=HC9.out.c 2 _ rfl
   have r3:=HC9.out.c 3 _ rfl
   have r4:=HC9.out.c 4 _ rfl
   have r5:=HC9.out.c 5 _ rfl
   have r6:=HC9.out.c 6 _ rfl
   have r7:=HC9.out.c 7 _ rfl
   have r8:=HC9.out.c 8 _ rfl
   have r9:=HC9.out.c 9 _ rfl
   have r10:=HC9.out.c 10 _ rfl
   have r11:=HC9.out.c 11 _ rfl
   have r12:=HC9.out.c 12 _ rfl
   have r13:=HC9.out.c 13 _ rfl
   have q0:=HD9.out.c 0 _ rfl
   have q1:=HD9.out.c 1 _ rfl
   have q2:=HD9.out.c 2 _ rfl
   exact bodyPost_ret (v:=.tuple #[.agg #[.slice R5.av aplG.verbs.length R5.cv,.slice R5.aa aplG.adverbs.length R5.ca,.slice R5.ab aplG.behind.length R5.cb,.string aplG.outer,.string aplG.power,.string aplG.opn,.string aplG.cls,.string aplG.left,.string aplG.right,.string R5.mi,.string R5.qu,.bool aplG.trains,.bool aplG.lone,.bool aplG.square],.slice a ws.length c,.agg #[.int .i64 er,.int .i64 pl,.int .i64 0]]) (by simp [results,Try.results6,go_sem,r0,r1,r2,r3,r4,r5,r6,r7,r8,r9,r10,r11,r12,r13,q0,q1,q2]) rfl HFN.out
 ·refine H14.out.mono ?_
  rintro e w1 ⟨hb1,ws,a,c,er,pl,rfl,hc,hwr⟩
  go_upto_region 7 with fail
  obtain ⟨V,hV⟩:∃ V,w1.alloc (.cells #[.int .i64 er,.int .i64 pl,.int .i64 0] 28)=V:=⟨_,rfl⟩
  have bV:Below w1.heap.size w1 V:=by rw [←hV];exact one_alloc _ _
  have DV:Cs V w1.heap.size [.int .i64 er,.int .i64 pl,.int .i64 0]:=by rw [←hV];exact Cs.new w1 [.int .i64 er,.int .i64 pl,.int .i64 0] 28
  have HB1:=hide (bel_to hb1 bV)
  have HBA:=hide (bel_to hb1 bV)
  have HWV:=hide (show WoK (w.heap.size+2) V a ws by have h:=WoK.next hwr bV;rw [HS2.out] at h;exact h)
  have HC:=hide hc
  have x0:=DV.c 0 _ rfl
  have x1:=DV.c 1 _ rfl
  have x2:=DV.c 2 _ rfl
  have HDV:=hide DV
  have HNL:=hide hb1.size
  rw [hV]
  clear hV bV DV hb1 hwr hc H12 H14 H16
  refine wp_region_any (by kernel_rfl) ?_
  change wpAny _ _ _ _ _ _ _ (World.drew _)
  refine wpAny_take (i:=1) (v:=.slice a ws.length c) rfl (by kernel_rfl) (by kernel_rfl) (by kernel_rfl) (fun _ _ _ h=>h) (Or.inl ⟨by rfl,by intro w;rfl⟩) ?_
  refine wpAny_ready (rs:=[0,2]) (by kernel_rfl) (by simp) ?_
  refine AllReady.cons rfl (fun K hK=>?_) ?_
  ·go_simp
   refine (HJ.out _).mono ?_
   rintro e w5 ⟨hb5,R5,rfl,t1,t2,t3,tb⟩
   have hb5w:=bel_to (Below.refl V.heap.size V).drew hb5
   have hw5:=bel_to HB1.out hb5w
   refine hK _ _ ?_
   clear hK K hb5
   obtain ⟨W8,hW8⟩:∃ W8,w5.setCells w.heap.size 0 [.slice R5.av jG.verbs.length R5.cv,.slice R5.aa jG.adverbs.length R5.ca,.slice R5.ab jG.behind.length R5.cb,.string jG.outer,.string jG.power,.string jG.opn,.string jG.cls,.string jG.left,.string jG.right,.string R5.mi,.string R5.qu,.bool jG.trains,.bool jG.lone,.bool jG.square]=W8:=⟨_,rfl⟩
   obtain ⟨W9,hW9⟩:∃ W9,W8.setCells (w.heap.size+1) 0 [.int .i64 er,.int .i64 pl,.int .i64 0]=W9:=⟨_,rfl⟩
   obtain ⟨t8,t9,C9,D9,B9,K9,S9,H9,X8⟩:=fin2 (HR2.out.next hw5 HR2.out.lt) (HF2.out.next hw5 HF2.out.lt) (by simp) (by simp) (bel_to HB2.out hw5) hW8 hW9
   have HDW:=hide (X8 _ _ (HDV.out.next hb5w HDV.out.lt) (by have:=HNL.out;have:=HS2.out;omega))
   have hfin:=lex_fin (g:=jG) (R:=R5) (ws:=ws) (a:=a) (c:=c) (er:=er) (pl:=pl) HB2.out HS2.out HBA.out hb5w HWV.out HC.out (StrsK.of t1 fun b off h=>tb b off (Or.inl h)) (StrsK.of t2 fun b off h=>tb b off (Or.inr (Or.inl h))) (StrsK.of t3 fun b off h=>tb b off (Or.inr (Or.inr h))) (Or.inr (Or.inl rfl)) B9 S9 H9
   have HW8':Hid (w5.setCells w.heap.size 0 (#[.slice R5.av jG.verbs.length R5.cv,.slice R5.aa jG.adverbs.length R5.ca,.slice R5.ab jG.behind.length R5.cb,.string jG.outer,.string jG.power,.string jG.opn,.string jG.cls,.string jG.left,.string jG.right,.string R5.mi,.string R5.qu,.bool jG.trains,.bool jG.lone,.bool jG.square]:Array Value).toList=W8):=hW8
   have HW9':Hid (W8.setCells (w.heap.size+1) 0 (#[.int .i64 er,.int .i64 pl,.int .i64 0]:Array Value).toList=W9):=hW9
   have HT8:=hide t8
   have HT9:=hide t9
   have HC9:=hide C9
   have HD9:=hide D9
   have HFN:=hide hfin
   clear t8 t9 C9 D9 B9 K9 S9 H9 X8 hW8 hW9 hfin x0 x1 x2 t1 t2 t3 tb HBA HWV HC HF2 HB2 HA HJ HK
   obtain ⟨⟨y0,y1,y2⟩,yl,yz⟩:=lt3 (HDV.out.next hb5w HDV.out.lt)
   refine wpAny_ready (rs:=[2,3]) (by kernel_rfl) (by simp) ?_
   refine AllReady.cons rfl (fun K hK=>?_) ?_
   ·go_simp
    refine hK _ _ ?_
    clear hK K y0 y1 y2 yl yz
    refine wpAny_store (i:=3) (by kernel_rfl) rfl (by kernel_rfl) 24 (.tmp 4) (.tmp 34) rfl w.heap.size 0 #[.slice R5.av jG.verbs.length R5.cv,.slice R5.aa jG.adverbs.length R5.ca,.slice R5.ab jG.behind.length R5.cb,.string jG.outer,.string jG.power,.string jG.opn,.string jG.cls,.string jG.left,.string jG.right,.string R5.mi,.string R5.qu,.bool jG.trains,.bool jG.lone,.bool jG.square] rfl rfl HT8.out (by kernel_rfl) (by kernel_rfl) ?_
    rw [HW8'.out]
    refine wpAny_take (i:=4) (v:=.slice a ws.length c) rfl (by kernel_rfl) (by kernel_rfl) (by kernel_rfl) (fun _ _ _ h=>h) (Or.inl ⟨by rfl,by intro w;rfl⟩) ?_
    refine wpAny_store (i:=5) (by kernel_rfl) rfl (by kernel_rfl) 28 (.tmp 6) (.tmp 36) rfl (w.heap.size+1) 0 #[.int .i64 er,.int .i64 pl,.int .i64 0] rfl rfl HT9.out (by kernel_rfl) (by kernel_rfl) ?_
    rw [HW9'.out]
    refine wpAny_done (by kernel_rfl) ?_ _
    clear hb5w hw5 HB1 HDV HR2 HS2 HDW HT8 HT9 HW8' HW9'
    go_wp2
    have r0:=HC9.out.c 0 _ rfl
    have r1:=HC9.out.c 1 _ rfl
    have r2:=HC9.out.c 2 _ rfl
    have r3:=HC9.out.c 3 _ rfl
    have r4:=HC9.out.c 4 _ rfl
    have r5:=HC9.out.c 5 _ rfl
    have r6:=HC9.out.c 6 _ rfl
    have r7:=HC9.out.c 7 _ rfl
    have r8:=HC9.out.c 8 _ rfl
    have r9:=HC9.out.c 9 _ rfl
    have r10:=HC9.out.c 10 _ rfl
    have r11:=HC9.out.c 11 _ rfl
    have r12:=HC9.out.c 12 _ rfl
    have r13:=HC9.out.c 13 _ rfl
    have q0:=HD9.out.c 0 _ rfl
    have q1:=HD9.out.c 1 _ rfl
    have q2:=HD9.out.c 2 _ rfl
    exact bodyPost_ret (v:=.tuple #[.agg #[.slice R5.av jG.verbs.length R5.cv,.slice R5.aa jG.adverbs.length R5.ca,.slice R5.ab jG.behind.length R5.cb,.string jG.outer,.string jG.power,.string jG.opn,.string jG.cls,.string jG.left,.string jG.right,.string R5.mi,.string R5.qu,.bool jG.trains,.bool jG.lone,.bool jG.square],.slice a ws.length c,.agg #[.int .i64 er,.int .i64 pl,.int .i64 0]]) (by simp [results,Try.results6,go_sem,r0,r1,r2,r3,r4,r5,r6,r7,r8,r9,r10,r11,r12,r13,q0,q1,q2]) rfl HFN.out
   refine AllReady.cons rfl (fun K hK=>?_) AllReady.nil
   ·refine if_yes (by kernel_rfl) (wp_store_mid 24 (.tmp 4) (.tmp 34) rfl w.heap.size 0 #[.slice R5.av jG.verbs.length R5.cv,.slice R5.aa jG.adverbs.length R5.ca,.slice R5.ab jG.behind.length R5.cb,.string jG.outer,.string jG.power,.string jG.opn,.string jG.cls,.string jG.left,.string jG.right,.string R5.mi,.string R5.qu,.bool jG.trains,.bool jG.lone,.bool jG.square] rfl rfl HT8.out (by kernel_rfl) (by kernel_rfl) ?_)
    rw [HW8'.out]
    refine hK _ _ ?_
    clear hK K y0 y1 y2 yl yz
    refine wpAny_take (i:=4) (v:=.slice a ws.length c) rfl (by kernel_rfl) (by kernel_rfl) (by kernel_rfl) (fun _ _ _ h=>h) (Or.inl ⟨by rfl,by intro w;rfl⟩) ?_
    obtain ⟨⟨y0,y1,y2⟩,yl,yz⟩:=lt3 HDW.out
    refine wpAny_ready (rs:=[2]) (by kernel_rfl) (by simp) ?_
    refine AllReady.cons rfl (fun K hK=>?_) AllReady.nil
    go_simp
    refine hK _ _ ?_
    clear hK K y0 y1 y2 yl yz
    refine wpAny_store (i:=5) (by kernel_rfl) rfl (by kernel_rfl) 28 (.tmp 6) (.tmp 36) rfl (w.heap.size+1) 0 #[.int .i64 er,.int .i64 pl,.int .i64 0] rfl rfl HT9.out (by kernel_rfl) (by kernel_rfl) ?_
    rw [HW9'.out]
    refine wpAny_done (by kernel_rfl) ?_ _
    clear hb5w hw5 HB1 HDV HR2 HS2 HDW HT8 HT9 HW8' HW9'
    go_wp2
    have r0:=HC9.out.c 0 _ rfl
    have r1:=HC9.out.c 1 _ rfl
    have r2:=HC9.out.c 2 _ rfl
    have r3:=HC9.out.c 3 _ rfl
    have r4:=HC9.out.c 4 _ rfl
    have r5:=HC9.out.c 5 _ rfl
    have r6:=HC9.out.c 6 _ rfl
    have r7:=HC9.out.c 7 _ rfl
    have r8:=HC9.out.c 8 _ rfl
    have r9:=HC9.out.c 9 _ rfl
    have r10:=HC9.out.c 10 _ rfl
    have r11:=HC9.out.c 11 _ rfl
    have r12:=HC9.out.c 12 _ rfl
    have r13:=HC9.out.c 13 _ rfl
    have q0:=HD9.out.c 0 _ rfl
    have q1:=HD9.out.c 1 _ rfl
    have q2:=HD9.out.c 2 _ rfl
    exact bodyPost_ret (v:=.tuple #[.agg #[.slice R5.av jG.verbs.length R5.cv,.slice R5.aa jG.adverbs.length R5.ca,.slice R5.ab jG.behind.length R5.cb,.string jG.outer,.string jG.power,.string jG.opn,.string jG.cls,.string jG.left,.string jG.right,.string R5.mi,.string R5.qu,.bool jG.trains,.bool jG.lone,.bool jG.square],.slice a ws.length c,.agg #[.int .i64 er,.int .i64 pl,.int .i64 0]]) (by simp [results,Try.results6,go_sem,r0,r1,r2,r3,r4,r5,r6,r7,r8,r9,r10,r11,r12,r13,q0,q1,q2]) rfl HFN.out
  refine AllReady.cons rfl (fun K hK=>?_) AllReady.nil
  ·go_simp
   refine hK _ _ ?_
   clear hK K
   refine wpAny_ready (rs:=[0]) (by kernel_rfl) (by simp) ?_
   refine AllReady.cons rfl (fun K hK=>?_) AllReady.nil
   go_simp
   refine (HJ.out _).mono ?_
   rintro e w5 ⟨hb5,R5,rfl,t1,t2,t3,tb⟩
   have hb5w:=bel_to (Below.refl V.heap.size V).drew hb5
   have hw5:=bel_to HB1.out hb5w
   refine hK _ _ ?_
   clear hK K hb5
   obtain ⟨W8,hW8⟩:∃ W8,w5.setCells w.heap.size 0 [.slice R5.av jG.verbs.length R5.cv,.slice R5.aa jG.adverbs.length R5.ca,.slice R5.ab jG.behind.length R5.cb,.string jG.outer,.string jG.power,.string jG.opn,.string jG.cls,.string jG.left,.string jG.right,.string R5.mi,.string R5.qu,.bool jG.trains,.bool jG.lone,.bool jG.square]=W8:=⟨_,rfl⟩
   obtain ⟨W9,hW9⟩:∃ W9,W8.setCells (w.heap.size+1) 0 [.int .i64 er,.int .i64 pl,.int .i64 0]=W9:=⟨_,rfl⟩
   obtain ⟨t8,t9,C9,D9,B9,K9,S9,H9,X8⟩:=fin2 (HR2.out.next hw5 HR2.out.lt) (HF2.out.next hw5 HF2.out.lt) (by simp) (by simp) (bel_to HB2.out hw5) hW8 hW9
   have HDW:=hide (X8 _ _ (HDV.out.next hb5w HDV.out.lt) (by have:=HNL.out;have:=HS2.out;omega))
   have hfin:=lex_fin (g:=jG) (R:=R5) (ws:=ws) (a:=a) (c:=c) (er:=er) (pl:=pl) HB2.out HS2.out HBA.out hb5w HWV.out HC.out (StrsK.of t1 fun b off h=>tb b off (Or.inl h)) (StrsK.of t2 fun b off h=>tb b off (Or.inr (Or.inl h))) (StrsK.of t3 fun b off h=>tb b off (Or.inr (Or.inr h))) (Or.inr (Or.inl rfl)) B9 S9 H9
   have HW8':Hid (w5.setCells w.heap.size 0 (#[.slice R5.av jG.verbs.length R5.cv,.slice R5.aa jG.adverbs.length R5.ca,.slice R5.ab jG.behind.length R5.cb,.string jG.outer,.string jG.power,.string jG.opn,.string jG.cls,.string jG.left,.string jG.right,.string R5.mi,.string R5.qu,.bool jG.trains,.bool jG.lone,.bool jG.square]:Array Value).toList=W8):=hW8
   have HW9':Hid (W8.setCells (w.heap.size+1) 0 (#[.int .i64 er,.int .i64 pl,.int .i64 0]:Array Value).toList=W9):=hW9
   have HT8:=hide t8
   have HT9:=hide t9
   have HC9:=hide C9
   have HD9:=hide D9
   have HFN:=hide hfin
   clear t8 t9 C9 D9 B9 K9 S9 H9 X8 hW8 hW9 hfin x0 x1 x2 t1 t2 t3 tb HBA HWV HC HF2 HB2 HA HJ HK
   refine wpAny_store (i:=3) (by kernel_rfl) rfl (by kernel_rfl) 24 (.tmp 4) (.tmp 34) rfl w.heap.size 0 #[.slice R5.av jG.verbs.length R5.cv,.slice R5.aa jG.adverbs.length R5.ca,.slice R5.ab jG.behind.length R5.cb,.string jG.outer,.string jG.power,.string jG.opn,.string jG.cls,.string jG.left,.string jG.right,.string R5.mi,.string R5.qu,.bool jG.trains,.bool jG.lone,.bool jG.square] rfl rfl HT8.out (by kernel_rfl) (by kernel_rfl) ?_
   rw [HW8'.out]
   refine wpAny_take (i:=4) (v:=.slice a ws.length c) rfl (by kernel_rfl) (by kernel_rfl) (by kernel_rfl) (fun _ _ _ h=>h) (Or.inl ⟨by rfl,by intro w;rfl⟩) ?_
   refine wpAny_store (i:=5) (by kernel_rfl) rfl (by kernel_rfl) 28 (.tmp 6) (.tmp 36) rfl (w.heap.size+1) 0 #[.int .i64 er,.int .i64 pl,.int .i64 0] rfl rfl HT9.out (by kernel_rfl) (by kernel_rfl) ?_
   rw [HW9'.out]
   refine wpAny_done (by kernel_rfl) ?_ _
   clear hb5w hw5 HB1 HDV HR2 HS2 HDW HT8 HT9 HW8' HW9'
   go_wp2
   have r0:=HC9.out.c 0 _ rfl
   have r1:=HC9.out.c 1 _ rfl
   have r2:=HC9.out.c 2 _ rfl
   have r3:=HC9.out.c 3 _ rfl
   have r4:=HC9.out.c 4 _ rfl
   have r5:=HC9.out.c 5 _ rfl
   have r6:=HC9.out.c 6 _ rfl
   have r7:=HC9.out.c 7 _ rfl
   have r8:=HC9.out.c 8 _ rfl
   have r9:=HC9.out.c 9 _ rfl
   have r10:=HC9.out.c 10 _ rfl
   have r11:=HC9.out.c 11 _ rfl
   have r12:=HC9.out.c 12 _ rfl
   have r13:=HC9.out.c 13 _ rfl
   have q0:=HD9.out.c 0 _ rfl
   have q1:=HD9.out.c 1 _ rfl
   have q2:=HD9.out.c 2 _ rfl
   exact bodyPost_ret (v:=.tuple #[.agg #[.slice R5.av jG.verbs.length R5.cv,.slice R5.aa jG.adverbs.length R5.ca,.slice R5.ab jG.behind.length R5.cb,.string jG.outer,.string jG.power,.string jG.opn,.string jG.cls,.string jG.left,.string jG.right,.string R5.mi,.string R5.qu,.bool jG.trains,.bool jG.lone,.bool jG.square],.slice a ws.length c,.agg #[.int .i64 er,.int .i64 pl,.int .i64 0]]) (by simp [results,Try.results6,go_sem,r0,r1,r2,r3,r4,r5,r6,r7,r8,r9,r10,r11,r12,r13,q0,q1,q2]) rfl HFN.out
 ·refine H16.out.mono ?_
  rintro e w1 ⟨hb1,ws,a,c,er,pl,rfl,hc,hwr⟩
  go_upto_region 9 with fail
  obtain ⟨V,hV⟩:∃ V,w1.alloc (.cells #[.int .i64 er,.int .i64 pl,.int .i64 0] 28)=V:=⟨_,rfl⟩
  have bV:Below w1.heap.size w1 V:=by rw [←hV];exact one_alloc _ _
  have DV:Cs V w1.heap.size [.int .i64 er,.int .i64 pl,.int .i64 0]:=by rw [←hV];exact Cs.new w1 [.int .i64 er,.int .i64 pl,.int .i64 0] 28
  have HB1:=hide (bel_to hb1 bV)
  have HBA:=hide (bel_to hb1 bV)
  have HWV:=hide (show WoK (w.heap.size+2) V a ws by have h:=WoK.next hwr bV;rw [HS2.out] at h;exact h)
  have HC:=hide hc
  have x0:=DV.c 0 _ rfl
  have x1:=DV.c 1 _ rfl
  have x2:=DV.c 2 _ rfl
  have HDV:=hide DV
  have HNL:=hide hb1.size
  rw [hV]
  clear hV bV DV hb1 hwr hc H12 H14 H16
  refine wp_region_any (by kernel_rfl) ?_
  change wpAny _ _ _ _ _ _ _ (World.drew _)
  refine wpAny_take (i:=1) (v:=.slice a ws.length c) rfl (by kernel_rfl) (by kernel_rfl) (by kernel_rfl) (fun _ _ _ h=>h) (Or.inl ⟨by rfl,by intro w;rfl⟩) ?_
  refine wpAny_ready (rs:=[0,2]) (by kernel_rfl) (by simp) ?_
  refine AllReady.cons rfl (fun K hK=>?_) ?_
  ·go_simp
   refine (HK.out _).mono ?_
   rintro e w5 ⟨hb5,R5,rfl,t1,t2,t3,tb⟩
   have hb5w:=bel_to (Below.refl V.heap.size V).drew hb5
   have hw5:=bel_to HB1.out hb5w
   refine hK _ _ ?_
   clear hK K hb5
   obtain ⟨W8,hW8⟩:∃ W8,w5.setCells w.heap.size 0 [.slice R5.av kG.verbs.length R5.cv,.slice R5.aa kG.adverbs.length R5.ca,.slice R5.ab kG.behind.length R5.cb,.string kG.outer,.string kG.power,.string kG.opn,.string kG.cls,.string kG.left,.string kG.right,.string R5.mi,.string R5.qu,.bool kG.trains,.bool kG.lone,.bool kG.square]=W8:=⟨_,rfl⟩
   obtain ⟨W9,hW9⟩:∃ W9,W8.setCells (w.heap.size+1) 0 [.int .i64 er,.int .i64 pl,.int .i64 0]=W9:=⟨_,rfl⟩
   obtain ⟨t8,t9,C9,D9,B9,K9,S9,H9,X8⟩:=fin2 (HR2.out.next hw5 HR2.out.lt) (HF2.out.next hw5 HF2.out.lt) (by simp) (by simp) (bel_to HB2.out hw5) hW8 hW9
   have HDW:=hide (X8 _ _ (HDV.out.next hb5w HDV.out.lt) (by have:=HNL.out;have:=HS2.out;omega))
   have hfin:=lex_fin (g:=kG) (R:=R5) (ws:=ws) (a:=a) (c:=c) (er:=er) (pl:=pl) HB2.out HS2.out HBA.out hb5w HWV.out HC.out (StrsK.of t1 fun b off h=>tb b off (Or.inl h)) (StrsK.of t2 fun b off h=>tb b off (Or.inr (Or.inl h))) (StrsK.of t3 fun b off h=>tb b off (Or.inr (Or.inr h))) (Or.inr (Or.inr rfl)) B9 S9 H9
   have HW8':Hid (w5.setCells w.heap.size 0 (#[.slice R5.av kG.verbs.length R5.cv,.slice R5.aa kG.adverbs.length R5.ca,.slice R5.ab kG.behind.length R5.cb,.string kG.outer,.string kG.power,.string kG.opn,.string kG.cls,.string kG.left,.string kG.right,.string R5.mi,.string R5.qu,.bool kG.trains,.bool kG.lone,.bool kG.square]:Array Value).toList=W8):=hW8
   have HW9':Hid (W8.setCells (w.heap.size+1) 0 (#[.int .i64 er,.int .i64 pl,.int .i64 0]:Array Value).toList=W9):=hW9
   have HT8:=hide t8
   have HT9:=hide t9
   have HC9:=hide C9
   have HD9:=hide D9
   have HFN:=hide hfin
   clear t8 t9 C9 D9 B9 K9 S9 H9 X8 hW8 hW9 hfin x0 x1 x2 t1 t2 t3 tb HBA HWV HC HF2 HB2 HA HJ HK
   obtain ⟨⟨y0,y1,y2⟩,yl,yz⟩:=lt3 (HDV.out.next hb5w HDV.out.lt)
   refine wpAny_ready (rs:=[2,3]) (by kernel_rfl) (by simp) ?_
   refine AllReady.cons rfl (fun K hK=>?_) ?_
   ·go_simp
    refine hK _ _ ?_
    clear hK K y0 y1 y2 yl yz
    refine wpAny_store (i:=3) (by kernel_rfl) rfl (by kernel_rfl) 24 (.tmp 4) (.tmp 42) rfl w.heap.size 0 #[.slice R5.av kG.verbs.length R5.cv,.slice R5.aa kG.adverbs.length R5.ca,.slice R5.ab kG.behind.length R5.cb,.string kG.outer,.string kG.power,.string kG.opn,.string kG.cls,.string kG.left,.string kG.right,.string R5.mi,.string R5.qu,.bool kG.trains,.bool kG.lone,.bool kG.square] rfl rfl HT8.out (by kernel_rfl) (by kernel_rfl) ?_
    rw [HW8'.out]
    refine wpAny_take (i:=4) (v:=.slice a ws.length c) rfl (by kernel_rfl) (by kernel_rfl) (by kernel_rfl) (fun _ _ _ h=>h) (Or.inl ⟨by rfl,by intro w;rfl⟩) ?_
    refine wpAny_store (i:=5) (by kernel_rfl) rfl (by kernel_rfl) 28 (.tmp 6) (.tmp 44) rfl (w.heap.size+1) 0 #[.int .i64 er,.int .i64 pl,.int .i64 0] rfl rfl HT9.out (by kernel_rfl) (by kernel_rfl) ?_
    rw [HW9'.out]
    refine wpAny_done (by kernel_rfl) ?_ _
    clear hb5w hw5 HB1 HDV HR2 HS2 HDW HT8 HT9 HW8' HW9'
    go_wp2
    have r0:=HC9.out.c 0 _ rfl
    have r1:=HC9.out.c 1 _ rfl
    have r2:=HC9.out.c 2 _ rfl
    have r3:=HC9.out.c 3 _ rfl
    have r4:=HC9.out.c 4 _ rfl
    have r5:=HC9.out.c 5 _ rfl
    have r6:=HC9.out.c 6 _ rfl
    have r7:=HC9.out.c 7 _ rfl
    have r8:=HC9.out.c 8 _ rfl
    have r9:=HC9.out.c 9 _ rfl
    have r10:=HC9.out.c 10 _ rfl
    have r11:=HC9.out.c 11 _ rfl
    have r12:=HC9.out.c 12 _ rfl
    have r13:=HC9.out.c 13 _ rfl
    have q0:=HD9.out.c 0 _ rfl
    have q1:=HD9.out.c 1 _ rfl
    have q2:=HD9.out.c 2 _ rfl
    exact bodyPost_ret (v:=.tuple #[.agg #[.slice R5.av kG.verbs.length R5.cv,.slice R5.aa kG.adverbs.length R5.ca,.slice R5.ab kG.behind.length R5.cb,.string kG.outer,.string kG.power,.string kG.opn,.string kG.cls,.string kG.left,.string kG.right,.string R5.mi,.string R5.qu,.bool kG.trains,.bool kG.lone,.bool kG.square],.slice a ws.length c,.agg #[.int .i64 er,.int .i64 pl,.int .i64 0]]) (by simp [results,Try.results6,go_sem,r0,r1,r2,r3,r4,r5,r6,r7,r8,r9,r10,r11,r12,r13,q0,q1,q2]) rfl HFN.out
   refine AllReady.cons rfl (fun K hK=>?_) AllReady.nil
   ·refine if_yes (by kernel_rfl) (wp_store_mid 24 (.tmp 4) (.tmp 42) rfl w.heap.size 0 #[.slice R5.av kG.verbs.length R5.cv,.slice R5.aa kG.adverbs.length R5.ca,.slice R5.ab kG.behind.length R5.cb,.string kG.outer,.string kG.power,.string kG.opn,.string kG.cls,.string kG.left,.string kG.right,.string R5.mi,.string R5.qu,.bool kG.trains,.bool kG.lone,.bool kG.square] rfl rfl HT8.out (by kernel_rfl) (by kernel_rfl) ?_)
    rw [HW8'.out]
    refine hK _ _ ?_
    clear hK K y0 y1 y2 yl yz
    refine wpAny_take (i:=4) (v:=.slice a ws.length c) rfl (by kernel_rfl) (by kernel_rfl) (by kernel_rfl) (fun _ _ _ h=>h) (Or.inl ⟨by rfl,by intro w;rfl⟩) ?_
    obtain ⟨⟨y0,y1,y2⟩,yl,yz⟩:=lt3 HDW.out
    refine wpAny_ready (rs:=[2]) (by kernel_rfl) (by simp) ?_
    refine AllReady.cons rfl (fun K hK=>?_) AllReady.nil
    go_simp
    refine hK _ _ ?_
    clear hK K y0 y1 y2 yl yz
    refine wpAny_store (i:=5) (by kernel_rfl) rfl (by kernel_rfl) 28 (.tmp 6) (.tmp 44) rfl (w.heap.size+1) 0 #[.int .i64 er,.int .i64 pl,.int .i64 0] rfl rfl HT9.out (by kernel_rfl) (by kernel_rfl) ?_
    rw [HW9'.out]
    refine wpAny_done (by kernel_rfl) ?_ _
    clear hb5w hw5 HB1 HDV HR2 HS2 HDW HT8 HT9 HW8' HW9'
    go_wp2
    have r0:=HC9.out.c 0 _ rfl
    have r1:=HC9.out.c 1 _ rfl
    have r2:=HC9.out.c 2 _ rfl
    have r3:=HC9.out.c 3 _ rfl
    have r4:=HC9.out.c 4 _ rfl
    have r5:=HC9.out.c 5 _ rfl
    have r6:=HC9.out.c 6 _ rfl
    have r7:=HC9.out.c 7 _ rfl
    have r8:=HC9.out.c 8 _ rfl
    have r9:=HC9.out.c 9 _ rfl
    have r10:=HC9.out.c 10 _ rfl
    have r11:=HC9.out.c 11 _ rfl
    have r12:=HC9.out.c 12 _ rfl
    have r13:=HC9.out.c 13 _ rfl
    have q0:=HD9.out.c 0 _ rfl
    have q1:=HD9.out.c 1 _ rfl
    have q2:=HD9.out.c 2 _ rfl
    exact bodyPost_ret (v:=.tuple #[.agg #[.slice R5.av kG.verbs.length R5.cv,.slice R5.aa kG.adverbs.length R5.ca,.slice R5.ab kG.behind.length R5.cb,.string kG.outer,.string kG.power,.string kG.opn,.string kG.cls,.string kG.left,.string kG.right,.string R5.mi,.string R5.qu,.bool kG.trains,.bool kG.lone,.bool kG.square],.slice a ws.length c,.agg #[.int .i64 er,.int .i64 pl,.int .i64 0]]) (by simp [results,Try.results6,go_sem,r0,r1,r2,r3,r4,r5,r6,r7,r8,r9,r10,r11,r12,r13,q0,q1,q2]) rfl HFN.out
  refine AllReady.cons rfl (fun K hK=>?_) AllReady.nil
  ·go_simp
   refine hK _ _ ?_
   clear hK K
   refine wpAny_ready (rs:=[0]) (by kernel_rfl) (by simp) ?_
   refine AllReady.cons rfl (fun K hK=>?_) AllReady.nil
   go_simp
   refine (HK.out _).mono ?_
   rintro e w5 ⟨hb5,R5,rfl,t1,t2,t3,tb⟩
   have hb5w:=bel_to (Below.refl V.heap.size V).drew hb5
   have hw5:=bel_to HB1.out hb5w
   refine hK _ _ ?_
   clear hK K hb5
   obtain ⟨W8,hW8⟩:∃ W8,w5.setCells w.heap.size 0 [.slice R5.av kG.verbs.length R5.cv,.slice R5.aa kG.adverbs.length R5.ca,.slice R5.ab kG.behind.length R5.cb,.string kG.outer,.string kG.power,.string kG.opn,.string kG.cls,.string kG.left,.string kG.right,.string R5.mi,.string R5.qu,.bool kG.trains,.bool kG.lone,.bool kG.square]=W8:=⟨_,rfl⟩
   obtain ⟨W9,hW9⟩:∃ W9,W8.setCells (w.heap.size+1) 0 [.int .i64 er,.int .i64 pl,.int .i64 0]=W9:=⟨_,rfl⟩
   obtain ⟨t8,t9,C9,D9,B9,K9,S9,H9,X8⟩:=fin2 (HR2.out.next hw5 HR2.out.lt) (HF2.out.next hw5 HF2.out.lt) (by simp) (by simp) (bel_to HB2.out hw5) hW8 hW9
   have HDW:=hide (X8 _ _ (HDV.out.next hb5w HDV.out.lt) (by have:=HNL.out;have:=HS2.out;omega))
   have hfin:=lex_fin (g:=kG) (R:=R5) (ws:=ws) (a:=a) (c:=c) (er:=er) (pl:=pl) HB2.out HS2.out HBA.out hb5w HWV.out HC.out (StrsK.of t1 fun b off h=>tb b off (Or.inl h)) (StrsK.of t2 fun b off h=>tb b off (Or.inr (Or.inl h))) (StrsK.of t3 fun b off h=>tb b off (Or.inr (Or.inr h))) (Or.inr (Or.inr rfl)) B9 S9 H9
   have HW8':Hid (w5.setCells w.heap.size 0 (#[.slice R5.av kG.verbs.length R5.cv,.slice R5.aa kG.adverbs.length R5.ca,.slice R5.ab kG.behind.length R5.cb,.string kG.outer,.string kG.power,.string kG.opn,.string kG.cls,.string kG.left,.string kG.right,.string R5.mi,.string R5.qu,.bool kG.trains,.bool kG.lone,.bool kG.square]:Array Value).toList=W8):=hW8
   have HW9':Hid (W8.setCells (w.heap.size+1) 0 (#[.int .i64 er,.int .i64 pl,.int .i64 0]:Array Value).toList=W9):=hW9
   have HT8:=hide t8
   have HT9:=hide t9
   have HC9:=hide C9
   have HD9:=hide D9
   have HFN:=hide hfin
   clear t8 t9 C9 D9 B9 K9 S9 H9 X8 hW8 hW9 hfin x0 x1 x2 t1 t2 t3 tb HBA HWV HC HF2 HB2 HA HJ HK
   refine wpAny_store (i:=3) (by kernel_rfl) rfl (by kernel_rfl) 24 (.tmp 4) (.tmp 42) rfl w.heap.size 0 #[.slice R5.av kG.verbs.length R5.cv,.slice R5.aa kG.adverbs.length R5.ca,.slice R5.ab kG.behind.length R5.cb,.string kG.outer,.string kG.power,.string kG.opn,.string kG.cls,.string kG.left,.string kG.right,.string R5.mi,.string R5.qu,.bool kG.trains,.bool kG.lone,.bool kG.square] rfl rfl HT8.out (by kernel_rfl) (by kernel_rfl) ?_
   rw [HW8'.out]
   refine wpAny_take (i:=4) (v:=.slice a ws.length c) rfl (by kernel_rfl) (by kernel_rfl) (by kernel_rfl) (fun _ _ _ h=>h) (Or.inl ⟨by rfl,by intro w;rfl⟩) ?_
   refine wpAny_store (i:=5) (by kernel_rfl) rfl (by kernel_rfl) 28 (.tmp 6) (.tmp 44) rfl (w.heap.size+1) 0 #[.int .i64 er,.int .i64 pl,.int .i64 0] rfl rfl HT9.out (by kernel_rfl) (by kernel_rfl) ?_
   rw [HW9'.out]
   refine wpAny_done (by kernel_rfl) ?_ _
   clear hb5w hw5 HB1 HDV HR2 HS2 HDW HT8 HT9 HW8' HW9'
   go_wp2
   have r0:=HC9.out.c 0 _ rfl
   have r1:=HC9.out.c 1 _ rfl
   have r2:=HC9.out.c 2 _ rfl
   have r3:=HC9.out.c 3 _ rfl
   have r4:=HC9.out.c 4 _ rfl
   have r5:=HC9.out.c 5 _ rfl
   have r6:=HC9.out.c 6 _ rfl
   have r7:=HC9.out.c 7 _ rfl
   have r8:=HC9.out.c 8 _ rfl
   have r9:=HC9.out.c 9 _ rfl
   have r10:=HC9.out.c 10 _ rfl
   have r11:=HC9.out.c 11 _ rfl
   have r12:=HC9.out.c 12 _ rfl
   have r13:=HC9.out.c 13 _ rfl
   have q0:=HD9.out.c 0 _ rfl
   have q1:=HD9.out.c 1 _ rfl
   have q2:=HD9.out.c 2 _ rfl
   exact bodyPost_ret (v:=.tuple #[.agg #[.slice R5.av kG.verbs.length R5.cv,.slice R5.aa kG.adverbs.length R5.ca,.slice R5.ab kG.behind.length R5.cb,.string kG.outer,.string kG.power,.string kG.opn,.string kG.cls,.string kG.left,.string kG.right,.string R5.mi,.string R5.qu,.bool kG.trains,.bool kG.lone,.bool kG.square],.slice a ws.length c,.agg #[.int .i64 er,.int .i64 pl,.int .i64 0]]) (by simp [results,Try.results6,go_sem,r0,r1,r2,r3,r4,r5,r6,r7,r8,r9,r10,r11,r12,r13,q0,q1,q2]) rfl HFN.out
abbrev Zs:=Option Addr × Nat × Option Addr × Nat
def tv (t:Wo) (z:Zs):Nat→Value
|0=>.int .i64 t.kind
|1=>.string t.text
|2=>.slice z.1 t.lit.shape.length z.2.1
|3=>.slice z.2.2.1 t.lit.cells.length z.2.2.2
|_=>.int .i64 t.pos
def rowV (ws:List Wo) (Z:Nat→Zs):List Value:=(List.range (ws.length*5)).map fun j=>tv (wAt ws (j / 5)) (Z (j / 5)) (j % 5)
theorem rowV_len (ws:List Wo) (Z:Nat→Zs):(rowV ws Z).length=ws.length*5:=by simp [rowV]
theorem rowV_at (ws:List Wo) (Z:Nat→Zs) (i r:Nat) (hi:i<ws.length) (hr:r<5):(rowV ws Z)[i*5+r]?=some (tv (wAt ws i) (Z i) r):=by
 have h1:(i*5+r) / 5=i:=by omega
 have h2:(i*5+r) % 5=r:=by omega
 have h3:i*5+r<ws.length*5:=by omega
 simp [rowV,h1,h2,h3]
theorem row_of {w:World} {a:Option Addr} {ws:List Wo} (h:WoR 1 w a ws):∃ Z:Nat→Zs,∀ W,Below w.heap.size w W→(∀ j u,(rowV ws Z)[j]?=some u→∃ b off,a=some ⟨b,off,none⟩∧b<w.heap.size∧W.cell? ⟨b,off+j,none⟩=some u) ∧
  ∀ i,i<ws.length→(wAt ws i).text.size≤140737488355328∧ArIn 1 0 W (wAt ws i).lit (.agg #[tv (wAt ws i) (Z i) 2,tv (wAt ws i) (Z i) 3]):=by
 have hE:∀ i,i<ws.length→∃ z:Zs,∃ b off,a=some ⟨b,off,none⟩∧b<w.heap.size∧(∀ r,r<5→w.cell? ⟨b,off+(i*5+r),none⟩=some (tv (wAt ws i) z r))∧(wAt ws i).text.size≤140737488355328∧ArIn 1 0 w (wAt ws i).lit (.agg #[tv (wAt ws i) z 2,tv (wAt ws i) z 3]):=by
  intro i hi
  obtain ⟨b,off,z1,m1,z2,m2,ha,hl,h0,h1,h2,h3,h4,h5,h6⟩:=h i hi
  refine ⟨(z1,m1,z2,m2),b,off,ha,hl,fun r hr=>?_,h5,h6⟩
  rcases (by omega:r=0∨r=1∨r=2∨r=3∨r=4) with rfl|rfl|rfl|rfl|rfl
  ·exact h0
  ·rw [←Nat.add_assoc];exact h1
  ·rw [←Nat.add_assoc];exact h2
  ·rw [←Nat.add_assoc];exact h3
  ·rw [←Nat.add_assoc];exact h4
 obtain ⟨Z,hZ⟩:∃ Z:Nat→Zs,∀ i,i<ws.length→∃ b off,a=some ⟨b,off,none⟩∧b<w.heap.size∧(∀ r,r<5→w.cell? ⟨b,off+(i*5+r),none⟩=some (tv (wAt ws i) (Z i) r))∧(wAt ws i).text.size≤140737488355328∧ArIn 1 0 w (wAt ws i).lit (.agg #[tv (wAt ws i) (Z i) 2,tv (wAt ws i) (Z i) 3]):=by
  classical
  refine ⟨fun i=>if hi:i<ws.length then (hE i hi).choose else (none,0,none,0),fun i hi=>?_⟩
  simp only [dif_pos hi]
  exact (hE i hi).choose_spec
 refine ⟨Z,fun W hW=>⟨fun j u hu=>?_,fun i hi=>?_⟩⟩
 ·have hj:j<ws.length*5:=by
   have:=(List.getElem?_eq_some_iff.1 hu).1
   rwa [rowV_len] at this
  have hi:j / 5<ws.length:=by omega
  obtain ⟨b,off,ha,hl,hc,-,-⟩:=hZ (j / 5) hi
  have hr:=rowV_at ws Z (j / 5) (j % 5) hi (by omega)
  rw [show j / 5*5+j % 5=j by omega] at hr
  rw [hr] at hu
  cases hu
  have h1:=hc (j % 5) (by omega)
  rw [show j / 5*5+j % 5=j by omega] at h1
  exact ⟨b,off,ha,hl,(hW.cell (p:=⟨b,off+j,none⟩) hl).trans h1⟩
 ·obtain ⟨b,off,ha,hl,hc,h5,h6⟩:=hZ i hi
  exact ⟨h5,h6.next hW⟩
theorem words_own {W:World} {base:Nat} {v:Value} {ts:List Wo} {vs:List Value} (hown:W.ownsRow base 43 5 v ts.length vs) (hv:∀ i,i<ts.length→∃ z:Zs,(∀ r,r<5→vs[i*5+r]?=some (tv (wAt ts i) z r))∧(wAt ts i).text.size≤140737488355328∧ArIn 1 0 W (wAt ts i).lit (.agg #[tv (wAt ts i) z 2,tv (wAt ts i) z 3])) :
  ∃ a c,v=.slice a ts.length c∧ts.length≤c∧WoR 1 W a ts:=by
 have hown':=hown
 obtain ⟨h1,h2⟩:=hown
 rcases h2 with ⟨rfl,h2⟩|⟨g,cap,cur,rfl,hb,hg,hn,hm,hz,ht⟩
 ·have e:ts=[]:=List.eq_nil_of_length_eq_zero h2
  subst e
  exact ⟨none,0,rfl,Nat.zero_le _,fun i hi=>by simp at hi⟩
 ·refine ⟨_,_,rfl,by omega,fun i hi=>?_⟩
  obtain ⟨⟨z1,m1,z2,m2⟩,hr,h5,h6⟩:=hv i hi
  have c:∀ j x,j<ts.length*5→vs[j]?=some x→W.cell? ⟨g,0+j,none⟩=some x:=fun j x hj hx=>by
   have:=hown'.cellAt j hj
   rw [hx] at this
   simpa using this
  exact ⟨g,0,z1,m1,z2,m2,rfl,lt_of_block hg,c _ _ (by omega) (hr 0 (by omega)),c (i*5+1) _ (by omega) (hr 1 (by omega)),c (i*5+2) _ (by omega) (hr 2 (by omega)),c (i*5+3) _ (by omega) (hr 3 (by omega)),c (i*5+4) _ (by omega) (hr 4 (by omega)),h5,h6⟩
def RowOf (W:World) (ts:List Wo) (vs:List Value):Prop:=vs.length=ts.length*5∧∀ i,i<ts.length→∃ z:Zs,(∀ r,r<5→vs[i*5+r]?=some (tv (wAt ts i) z r))∧(wAt ts i).text.size≤140737488355328∧ArIn 1 0 W (wAt ts i).lit (.agg #[tv (wAt ts i) z 2,tv (wAt ts i) z 3])
theorem RowOf.nil (W:World):RowOf W [] []:=⟨rfl,fun i hi=>absurd hi (by simp)⟩
theorem RowOf.next {W W':World} {ts:List Wo} {vs:List Value} (h:RowOf W ts vs) (hb:Below W.heap.size W W'):RowOf W' ts vs:=⟨h.1,fun i hi=>by
 obtain ⟨z,h1,h2,h3⟩:=h.2 i hi
 exact ⟨z,h1,h2,h3.next hb⟩⟩
theorem RowOf.append {W:World} {ts us:List Wo} {vs xs:List Value} (h:RowOf W ts vs) (k:RowOf W us xs):RowOf W (ts++us) (vs++xs):=by
 refine ⟨by rw [List.length_append,List.length_append,h.1,k.1];omega,fun i hi=>?_⟩
 rw [List.length_append] at hi
 by_cases hlt:i<ts.length
 ·obtain ⟨z,h1,h2,h3⟩:=h.2 i hlt
  have hw:wAt (ts++us) i=wAt ts i:=by simp [wAt,List.getElem?_append_left hlt]
  rw [hw]
  exact ⟨z,fun r hr=>by rw [List.getElem?_append_left (by rw [h.1];omega)];exact h1 r hr,h2,h3⟩
 ·obtain ⟨z,h1,h2,h3⟩:=k.2 (i-ts.length) (by omega)
  have hw:wAt (ts++us) i=wAt us (i-ts.length):=by simp [wAt,List.getElem?_append_right (show ts.length≤i by omega)]
  rw [hw]
  refine ⟨z,fun r hr=>?_,h2,h3⟩
  rw [List.getElem?_append_right (by rw [h.1];omega),h.1,show i*5+r-ts.length*5=(i-ts.length)*5+r by omega]
  exact h1 r hr
theorem RowOf.one (W:World) (k:Int) (t:ByteArray) (p:Int) (ht:t.size≤140737488355328):RowOf W [⟨k,t,.mk [] [],p⟩] [.int .i64 k,.string t,.slice none 0 0,.slice none 0 0,.int .i64 p] :=
 ⟨rfl,fun i hi=>by
  have h0:i=0:=by simp at hi;exact hi
  subst h0
  refine ⟨(none,0,none,0),fun r hr=>?_,ht,?_⟩
  ·rcases (by omega:r=0∨r=1∨r=2∨r=3∨r=4) with rfl|rfl|rfl|rfl|rfl<;>rfl
  ·exact arIn_mk (x:=.mk [] []) (row_nil _ _ _) (by simp [Ar.cells]) (Or.inl rfl) rfl rfl⟩
theorem row_words {w:World} {a:Option Addr} {ws:List Wo} (h:WoR 1 w a ws):∃ xs:List Value,∀ W,Below w.heap.size w W→RowOf W ws xs∧∀ j u,xs[j]?=some u→∃ b off,a=some ⟨b,off,none⟩∧b<w.heap.size∧W.cell? ⟨b,off+j,none⟩=some u:=by
 obtain ⟨Z,hZ⟩:=row_of h
 exact ⟨rowV ws Z,fun W hW=>⟨⟨rowV_len ws Z,fun i hi=>⟨Z i,fun r hr=>rowV_at ws Z i r hi hr,((hZ W hW).2 i hi).1,((hZ W hW).2 i hi).2⟩⟩,(hZ W hW).1⟩⟩
theorem RowOf.own {W:World} {base:Nat} {v:Value} {ts:List Wo} {vs:List Value} (hown:W.ownsRow base 43 5 v ts.length vs) (h:RowOf W ts vs):∃ a c,v=.slice a ts.length c∧ts.length≤c∧WoR 1 W a ts:=words_own hown h.2
end Go.Proofs.Ytnaejfoighmfeaa.Rn
namespace Go.Proofs.Ytnaejfoighmfeaa
open Go.ChangeShapes Go.WideShapes Go.ChangeAt Go.RowKit
set_option maxRecDepth 100000
set_option linter.unusedVariables false
set_option linter.unusedSimpArgs false
def kE (z:List Wo) (q:Nd × List Wo × Nm):Nd × List Wo × Nm:=(q.1,q.2.1++z,q.2.2)
def kF (z:List Wo) (q:Nd × List Wo):Nd × List Wo:=(q.1,q.2++z)
def kT (z:List Wo) (q:List Nd × List Wo):List Nd × List Wo:=(q.1,q.2++z)
def SE (z:List Wo) (E E':ET):Prop:=∀ inn l,Sr (kE z) (E inn l) (E' inn (l++z))
def SF (g:Gr) (z:List Wo) (F F':FT):Prop:=∀ b l,wholeR g b l≠0→Sr (kF z) (F l) (F' (l++z))
theorem place_tl {e e':Int} {l:List Wo} (z:List Wo) (h:l≠[]):placeR e' (l++z)=placeR e l:=by
 cases l with
|nil=>exact absurd rfl h
|cons x r=>rfl
theorem close_tl {e e':Int} {t:ByteArray} {l z:List Wo}:Sr (·++z) (closeS e t l) (closeS e' t (l++z)):=by
 unfold closeS
 split
 ·rename_i h
  rw [isT6_tl z (isT6_ne h),if_pos h]
  refine Sr.ok ?_
  cases l with
 |nil=>cases h
 |cons x r=>rfl
 ·exact Sr.bad
theorem bare_tl {g:Gr} {e e':Int} {E E':ET} {z:List Wo} (hE:SE z E E'):SE z (bareS g e E) (bareS g e' E'):=by
 intro inn l
 cases l with
|nil=>exact Sr.bad
|cons x r =>
  unfold bareS
  have e1:isT 5 ro (x::r++z)=isT 5 ro (x::r):=rfl
  rw [e1]
  split
  ·exact (hE inn r).bind fun q hq=>close_tl.bind fun r' hr=>Sr.ok rfl
  ·have e2:wordS g e' inn (x::r++z)=wordS g e inn (x::r):=rfl
   rw [e2]
   refine Sr.bind (k:=id) (fun a ha=>Or.inl ha) fun q hq=>Sr.ok rfl
theorem sq_tl {g:Gr} {e e':Int} {E E':ET} {z:List Wo} (hz:Tl z) (hE:SE z E E') (inn:Bool) (p:Int) (j:Nat) (f:Nat) (n:Nd) (l:List Wo) (nm:Nm):Sr (kE z) (sqS g e E inn p f n l nm) (sqS g e' E' inn p (f+j) n (l++z) nm):=by
 induction f generalizing n l nm with
|zero=>exact Sr.stuck
|succ f ih =>
  rw [show f+1+j=(f+j)+1 by omega]
  simp only [sqS]
  rw [isT_tl hz (by decide)]
  split
  ·rename_i h
   simp only [Bool.and_eq_true] at h
   obtain ⟨x,r,rfl,-⟩:=isT_kind h.2
   exact (hE inn r).bind fun q hq=>close_tl.bind fun r' hr=>ih _ _ _
  ·exact Sr.ok rfl
theorem oper_tl {g:Gr} {e e':Int} {E E':ET} {z:List Wo} (hz:Tl z) (hE:SE z E E'):SE z (operS g e E) (operS g e' E'):=by
 intro inn l
 unfold operS
 refine (bare_tl hE inn l).bind fun q hq=>?_
 have hl:l≠[]:=by
  intro h0
  rw [h0] at hq
  cases hq
 rw [place_tl (e:=e) z hl,List.length_append,show l.length+z.length+1=l.length+1+z.length by omega]
 exact sq_tl hz hE inn _ _ _ _ _ _
theorem text_tl {g:Gr} {e e':Int} {E E':ET} {z:List Wo} (hE:SE z E E') {x:Wo} {r:List Wo}:Sr (kF z) (textS g e E (x::r)) (textS g e' E' (x::r++z)):=by
 unfold textS
 refine (hE true r).bind fun q hq=>close_tl.bind fun r' hr=>?_
 have e1:(kE z q).2.2=q.2.2:=rfl
 have e2:placeR e' (x::r++z)=placeR e (x::r):=rfl
 have e3:(kE z q).1=q.1:=rfl
 rw [e1,e2,e3]
 split
 ·exact Sr.ok rfl
 split
 ·exact Sr.bad
 ·exact Sr.ok rfl
theorem trS_tl {g:Gr} {F F':FT} {z:List Wo} (hz:Tl z) (hG:GoodF g F) (hF:SF g z F F') (b:Bool) (j m:Nat) (f:Nat) (ps:List Nd) (l:List Wo) (hc:isT 6 rc (l.drop (chainR (wholeR g b) m l).2)=true):Sr (kT z) (trS F f ps l) (trS F' (f+j) ps (l++z)):=by
 induction m generalizing f ps l with
|zero =>
  cases f with
 |zero=>exact Sr.stuck
 |succ f =>
   rw [show f+1+j=(f+j)+1 by omega]
   simp only [chainR,List.drop_zero] at hc
   obtain ⟨x,r,rfl,hk⟩:=isT_kind hc
   simp only [trS,overR,hk,decide_true,if_true,List.cons_append]
   exact Sr.ok rfl
|succ m ih =>
  cases f with
 |zero=>exact Sr.stuck
 |succ f =>
   rw [show f+1+j=(f+j)+1 by omega]
   simp only [chainR] at hc
   by_cases h0:wholeR g b l=0
   ·simp only [h0,if_true,List.drop_zero] at hc
    obtain ⟨x,r,rfl,hk⟩:=isT_kind hc
    simp only [trS,overR,hk,decide_true,if_true,List.cons_append]
    exact Sr.ok rfl
   ·simp only [h0,if_false] at hc
    obtain ⟨x,r,hl,hk⟩:=whole_head h0
    have ho:overR l=false:=by rw [hl];simp [overR];omega
    simp only [trS,overR_tl hz,ho]
    rw [←List.drop_drop] at hc
    refine (hF b l h0).bind fun q hq=>?_
    have h2:=((hG b l h0).2 q hq).2
    have h3:=ih f (ps++[q.1]) q.2 (by rw [h2];exact hc)
    exact h3
theorem stemS_tl {g:Gr} {e e':Int} {E E':ET} {F F':FT} {z:List Wo} (hz:Tl z) (hE:SE z E E') (hG:GoodF g F) (hF:SF g z F F') (b:Bool) {l:List Wo} (h:stemR g b l≠0):Sr (kF z) (stemS g e E F l) (stemS g e' E' F' (l++z)):=by
 cases l with
|nil=>exact absurd (stemR_nil g b) h
|cons x r =>
  rw [stemR_eq] at h
  unfold stemB at h
  have e1:isT 5 g.opn (x::r++z)=isT 5 g.opn (x::r):=rfl
  have e2:isT 5 ro (x::r++z)=isT 5 ro (x::r):=rfl
  unfold stemS
  rw [e1,e2]
  split
  ·exact text_tl hE
  rename_i h2
  split
  ·rename_i h3
   obtain ⟨y,q,he,hk⟩:=isT_kind h3
   cases he
   have hs:¬ (signT g.verbs (x::r)||(b&&signT g.behind (x::r)))=true:=by
    intro hs
    have:∃ y q,x::r=y::q∧y.kind=4:=by
     rcases (by simpa using hs:signT g.verbs (x::r)=true∨b=true∧signT g.behind (x::r)=true) with h1|⟨-,h1⟩<;>exact signT_kind h1
    obtain ⟨y,q,he,hk2⟩:=this
    cases he
    omega
   rw [if_neg hs,if_neg h2,if_pos h3] at h
   unfold brackR at h
   split at h
   ·exact absurd rfl h
   split at h
   ·rename_i h5
    unfold trainS
    rw [show placeR e' (x::r++z)=placeR e (x::r) from rfl,List.length_append,show (x::r).length+z.length+1=(x::r).length+1+z.length by omega]
    exact (trS_tl hz hG hF b z.length (most g) _ [] r h5).bind fun q hq=>Sr.ok rfl
   ·exact absurd rfl h
  ·exact Sr.ok rfl
theorem outR_cons {g:Gr} {x:Wo} {r:List Wo}:outR g (x::r)=true↔(isT 4 g.outer (x::r)=true∧stemR g false r≠0):=by
 unfold outR
 rw [Bool.and_eq_true]
 exact ⟨fun h=>⟨h.1,Nat.pos_iff_ne_zero.1 (of_decide_eq_true h.2)⟩,fun h=>⟨h.1,decide_eq_true (Nat.pos_of_ne_zero h.2)⟩⟩
theorem outR_no {g:Gr} {x:Wo} {r:List Wo} (h:¬ (isT 4 g.outer (x::r)=true∧stemR g false r≠0)):outR g (x::r)=false:=by
 cases ho:outR g (x::r) with
|false=>rfl
|true=>exact absurd (outR_cons.1 ho) h
theorem funS_tl {g:Gr} (hg:Fine g) {e e':Int} {E E':ET} {F F':FT} {z:List Wo} (hz:Tl z) (hE:SE z E E') (hG:GoodF g F) (hF:SF g z F F'):SF g z (funS g e E F) (funS g e' E' F'):=by
 intro b l h
 obtain ⟨x,r,rfl,hk⟩:=whole_head h
 have ep:placeR e' (x::r++z)=placeR e (x::r):=rfl
 rw [whole_cons] at h
 by_cases h0:isT 4 g.outer (x::r)=true∧stemR g false r≠0
 ·have ho:outR g (x::r)=true:=outR_cons.2 h0
  have h8:stemR g false (r++z)≠0:=by rw [(stem_tl hg hz false r).1 h0.2];exact h0.2
  have ho':outR g (x::r++z)=true:=outR_cons.2 ⟨h0.1,h8⟩
  unfold funS
  rw [ho,ho',ep]
  refine (stemS_tl (e:=e) (e':=e') hz hE hG hF false h0.2).bind fun q hq=>Sr.ok ?_
  exact adv_tl g _ hz _ _
 ·have ho:outR g (x::r)=false:=outR_no h0
  rw [if_neg h0] at h
  have hs:stemR g b (x::r)≠0:=fun h1=>h (by rw [if_pos h1])
  have ho':outR g (x::r++z)=false:=outR_no fun h2=>by
   obtain ⟨y,q,he,hk4⟩:=isT_kind h2.1
   cases he
   have h7:isT 4 g.outer (x::r)=true:=h2.1
   have:=hg.out _ h7
   rcases stem_sign hk4 hs with h3|h3
   ·rw [this.1] at h3;cases h3
   ·rw [this.2] at h3;cases h3
  unfold funS
  rw [ho,ho',ep]
  refine (stemS_tl (e:=e) (e':=e') hz hE hG hF b hs).bind fun q hq=>Sr.ok ?_
  exact adv_tl g _ hz _ _
def NoEx (g:Gr) (E:ET):Prop:=∀ m inn l q,overR (l.drop (chainR (wholeR g false) m l).2)=true→E inn l≠.ok q
theorem exprS_none {g:Gr} {e:Int} {E:ET} {F:FT} (hG:GoodF g F) (hN:NoEx g E):NoEx g (exprS g e E F):=by
 intro m inn l q h h1
 by_cases h0:wholeR g false l=0
 ·have hc:(chainR (wholeR g false) m l).2=0:=by rw [chain_stop (Or.inl h0)]
  rw [hc,List.drop_zero] at h
  unfold exprS at h1
  rw [if_pos h0] at h1
  obtain ⟨a,h2,-⟩:=Rs.bind_ok h1
  unfold operS at h2
  obtain ⟨b,h3,-⟩:=Rs.bind_ok h2
  cases l with
 |nil=>cases h3
 |cons x r =>
   have hk:x.kind=6:=by simpa [overR] using h
   unfold bareS at h3
   rw [if_neg (by simp [isT,hk])] at h3
   obtain ⟨c,h4,-⟩:=Rs.bind_ok h3
   obtain ⟨y,r',he,h5,h6⟩:=wordS_ok h4
   cases he
   exact h6 hk
 ·cases m with
 |zero =>
   rw [chain_stop (Or.inr rfl),List.drop_zero] at h
   obtain ⟨x,r,rfl,hk⟩:=whole_head h0
   have:x.kind=6:=by simpa [overR] using h
   omega
 |succ m =>
   rw [chain_step h0] at h
   unfold exprS at h1
   rw [if_neg h0] at h1
   obtain ⟨f,h2,h3⟩:=Rs.bind_ok h1
   obtain ⟨y,h4,h5⟩:=Rs.bind_ok h3
   have h6:=((hG false _ h0).2 f h2).2
   refine hN m inn f.2 y ?_ h4
   rw [h6,List.drop_drop]
   exact h
theorem EF_none (g:Gr) (e:Int) (d:Nat) (hG:∀ d,GoodF g (EF g e d).2):NoEx g (EF g e d).1:=by
 induction d with
|zero=>intro m inn l q h h1;cases h1
|succ d ih=>exact exprS_none (hG d) ih
theorem whole_zero {g:Gr} (hg:Fine g) {z:List Wo} (hz:Tl z) {e:Int} {E:ET} (hN:NoEx g E) {inn:Bool} {l:List Wo} {q:Nd × List Wo × Nm} (h0:wholeR g false l=0) (hq:bareS g e E inn l=.ok q):wholeR g false (l++z)=0:=by
 refine Decidable.byContradiction fun hne=>?_
 cases l with
|nil=>cases hq
|cons x r =>
  obtain ⟨y,r',he,hk⟩:=whole_head hne
  cases he
  have hu:=whole_tl hg hz false (x::r)
  unfold bareS at hq
  split at hq
  ·rename_i h1
   obtain ⟨y,r',he,hk5⟩:=isT_kind h1
   cases he
   obtain ⟨a,h2,h3⟩:=Rs.bind_ok hq
   have hnop:isT 5 g.opn (x::r)=false:=by
    cases ho:isT 5 g.opn (x::r) with
   |false=>rfl
   |true=>have:=hg.opn _ ho;rw [h1] at this;cases this
   have hns:∀ L,signT L (x::r)=false:=fun L=>by
    cases hs:signT L (x::r) with
   |false=>rfl
   |true =>
     obtain ⟨y,q',he,hk2⟩:=signT_kind hs
     cases he
     omega
   have hno:isT 4 g.outer (x::r)=false:=by simp [isT,hk5]
   have hst:∀ l',isT 5 ro (x::l')=true→stemR g false (x::l')=brackR g (wholeR g false) (x::l'):=by
    intro l' hl'
    rw [stemR_eq]
    unfold stemB
    have e3:signT g.verbs (x::l')=false:=hns _
    have e4:isT 5 g.opn (x::l')=false:=hnop
    rw [e3,e4,hl']
    simp
   have hb:brackR g (wholeR g false) (x::(r++z))≠0:=by
    intro hb
    have hn:wholeR g false (x::(r++z))≠0:=hne
    rw [whole_cons,if_neg (fun h=>by have h9:isT 4 g.outer (x::r)=true:=h.1;rw [hno] at h9;cases h9),hst (r++z) h1,hb,if_pos rfl] at hn
    exact hn rfl
   obtain ⟨h5,h6,-⟩:=brack_ne hb
   have hcl:(chainR (wholeR g false) (most g) (r++z)).2≤r.length:=by
    obtain ⟨c,q',hd,hkc⟩:=isT_kind h6
    refine Decidable.byContradiction fun hgt=>?_
    have hl:=congrArg List.length hd
    rw [List.length_drop,List.length_append] at hl
    have hzl:z.length≤1:=by rcases hz with rfl|⟨c',rfl,hc'⟩<;>simp
    simp only [List.length_cons] at hl
    omega
   have hC:=(chain_up (z:=z) (W:=wholeR g false) (n:=r.length) (fun l _=>whole_tl hg hz false l) (wholeR_le g false) (fun l h=>whole_head h) (most g) r (Nat.le_refl _)).2 hcl
   by_cases hlt:(chainR (wholeR g false) (most g) r).2=r.length
   ·exact hN (most g) inn r a (by rw [hlt,List.drop_length];rfl) h2
   ·have hle:(chainR (wholeR g false) (most g) r).2≤r.length:=by rw [hC];exact hcl
    have hne2:r.drop (chainR (wholeR g false) (most g) r).2≠[]:=by
     intro h0'
     have:=congrArg List.length h0'
     rw [List.length_drop] at this
     simp at this
     omega
    rw [←hC] at h5 h6
    rw [drop_tl z hle,isT6_tl z hne2] at h6
    have hbr:=brack_is (x:=x) h5 h6
    rw [whole_cons,if_neg (fun h=>by rw [hno] at h;cases h.1),hst r h1,hbr,if_neg (by omega)] at h0
    omega
  ·obtain ⟨a,h2,h3⟩:=Rs.bind_ok hq
   simp only [wordS] at h2
   have h4:∀ t,isT 3 t [x]=false:=fun t=>by simp [isT];omega
   rw [if_neg (by omega),h4,h4] at h2
   simp only [Bool.and_false,Bool.false_eq_true,if_false] at h2
   rw [if_neg (by omega)] at h2
   cases h2
theorem exprS_tl {g:Gr} (hg:Fine g) {e e':Int} {E E':ET} {F F':FT} {z:List Wo} (hz:Tl z) (hE:SE z E E') (hN:NoEx g E) (hF:SF g z F F'):SE z (exprS g e E F) (exprS g e' E' F'):=by
 intro inn l
 unfold exprS
 by_cases h0:wholeR g false l=0
 ·rw [if_pos h0]
  by_cases hok:∃ q,bareS g e E inn l=.ok q
  ·obtain ⟨q0,hq0⟩:=hok
   rw [if_pos (whole_zero hg hz hN h0 hq0)]
   have hl:l≠[]:=by intro hl;rw [hl] at hq0;cases hq0
   refine (oper_tl hz hE inn l).bind fun q hq=>?_
   have e1:overR (kE z q).2.1=overR q.2.1:=overR_tl hz
   rw [e1]
   split
   ·exact Sr.ok rfl
   split
   ·exact Sr.bad
   rename_i hw
   have hw2:wholeR g true (kE z q).2.1=wholeR g true q.2.1:=(whole_tl hg hz true q.2.1).1 hw
   rw [hw2,if_neg hw]
   refine (hF true q.2.1 hw).bind fun f hf=>?_
   have e2:repB g (kE z q).1 (kF z f).1=repB g q.1 f.1:=rfl
   rw [e2]
   split
   ·have e3:oftB (kE z q).1.lit=oftB q.1.lit:=rfl
    rw [e3]
    split
    ·exact (hE inn f.2).bind fun y hy=>Sr.ok rfl
    ·exact Sr.bad
   ·rw [place_tl (e:=e) z hl]
    exact (hE inn f.2).bind fun y hy=>Sr.ok rfl
  ·intro a ha
   obtain ⟨q,h1,h2⟩:=Rs.bind_ok ha
   unfold operS at h1
   obtain ⟨q0,h3,h4⟩:=Rs.bind_ok h1
   exact absurd ⟨q0,h3⟩ hok
 ·rw [if_neg h0,(whole_tl hg hz false l).1 h0,if_neg h0]
  refine (hF false l h0).bind fun f hf=>?_
  exact (hE inn f.2).bind fun y hy=>Sr.ok rfl
theorem EF_tl {g:Gr} (hg:Fine g) (e e':Int) (hG:∀ d,GoodF g (EF g e d).2) {z:List Wo} (hz:Tl z) (d:Nat):∀ d',d'≤d→SE z (EF g e d).1 (EF g e' d').1∧SF g z (EF g e d).2 (EF g e' d').2:=by
 induction d with
|zero =>
  intro d' hd
  exact ⟨fun inn l=>Sr.bad,fun b l h=>Sr.bad⟩
|succ d ih =>
  intro d' hd
  cases d' with
 |zero=>exact ⟨fun inn l=>Sr.deep,fun b l h=>Sr.deep⟩
 |succ d' =>
   obtain ⟨h1,h2⟩:=ih d' (by omega)
   exact ⟨exprS_tl hg hz h1 (EF_none g e d hG) h2,funS_tl hg hz h1 (hG d) h2⟩
theorem parse_ok {g:Gr} {e:Int} {l:List Wo} {x:Nd} (h:parseS g e l=.ok x):∃ nm,(EF g e 24).1 false l=.ok (x,[],nm):=by
 unfold parseS at h
 obtain ⟨q,h1,h2⟩:=Rs.bind_ok h
 obtain ⟨a,b,c⟩:=q
 cases b with
|nil=>cases h2;exact ⟨c,h1⟩
|cons y r=>cases h2
theorem parse_right {g:Gr} (hg:Fine g) {e e':Int} {l:List Wo} {x:Nd} {w0:Wo} (h:parseS g e l=.ok x) (k0:w0.kind=4) (h0:∀ r,signT g.verbs (w0::r)=true) :
  (∃ p,parseS g e' (w0::l)=.bad 15 p)∨parseS g e' (w0::l)=.ok (mo1 (node 21 0 w0.text [] w0.pos) x):=by
 obtain ⟨nm,hE⟩:=parse_ok h
 have hG:=fun d=>(EF_good g e d).2
 have hS:=(EF_tl hg e e' hG (Or.inl rfl:Tl []) 24 23 (by omega)).1 false l _ hE
 rw [List.append_nil] at hS
 have hout:∀ r,isT 4 g.outer (w0::r)=false:=fun r=>by
  cases ho:isT 4 g.outer (w0::r) with
 |false=>rfl
 |true=>have:=(hg.out _ ho).1;rw [h0] at this;cases this
 have hex:∀ y r,l=y::r→y.kind=4→signT g.verbs l=true∨isT 4 g.outer l=true:=by
  intro y r hl hk
  have hE':exprS g e (EF g e 23).1 (EF g e 23).2 false l=.ok (x,[],nm):=hE
  unfold exprS at hE'
  by_cases hw:wholeR g false l=0
  ·rw [if_pos hw] at hE'
   obtain ⟨a,h2,-⟩:=Rs.bind_ok hE'
   unfold operS at h2
   obtain ⟨b,h3,-⟩:=Rs.bind_ok h2
   unfold bareS at h3
   rw [hl,if_neg (by simp [isT,hk])] at h3
   obtain ⟨c,h4,-⟩:=Rs.bind_ok h3
   exfalso
   simp only [wordS] at h4
   have h5:∀ t,isT 3 t [y]=false:=fun t=>by simp [isT];omega
   rw [if_neg (by omega),h5,h5] at h4
   simp only [Bool.and_false,Bool.false_eq_true,if_false] at h4
   rw [if_neg (by omega)] at h4
   cases h4
  ·rw [hl] at hw ⊢
   rw [whole_cons] at hw
   by_cases ho:isT 4 g.outer (y::r)=true∧stemR g false r≠0
   ·exact Or.inr ho.1
   ·rw [if_neg ho] at hw
    have hs:stemR g false (y::r)≠0:=fun h1=>hw (by rw [if_pos h1])
    left
    rw [stemR_eq] at hs
    unfold stemB at hs
    cases hv:signT g.verbs (y::r) with
   |true=>rfl
   |false =>
     rw [hv,if_neg (by simp),if_neg (by simp [isT,hk]),if_neg (by simp [isT,hk])] at hs
     exact absurd rfl hs
 have hadv:signT g.adverbs l=false:=by
  cases ha:signT g.adverbs l with
 |false=>rfl
 |true =>
   obtain ⟨y,r,hl,hk⟩:=signT_kind ha
   have:=hg.adv _ ha
   rcases hex y r hl hk with h1|h1
   ·rw [this.1] at h1;cases h1
   ·rw [this.2] at h1;cases h1
 have hpow:powT g l=false:=by
  match hl:l with
 |[]=>rfl
 |[y]=>rfl
 |y::z::r =>
   cases ha:isT 4 g.power [y] with
  |false=>simp [powT,ha]
  |true =>
    have h7:isT 4 g.power (y::z::r)=true:=ha
    obtain ⟨y',r',he,hk⟩:=isT_kind h7
    cases he
    have:=hg.pow _ h7
    rcases hex y (z::r) rfl hk with h1|h1
    ·rw [this.1] at h1;cases h1
    ·rw [this.2] at h1;cases h1
 have hst:stemR g false (w0::l)=1:=by
  rw [stemR_eq]
  unfold stemB
  rw [h0]
  simp
 have hW:wholeR g false (w0::l)=1:=by
  rw [whole_cons,if_neg (fun h=>by rw [hout] at h;cases h.1),hst,if_neg (by omega)]
  show 1+tailR g l=1
  rw [(adv_none (p:=0) (f:=nNil) hadv hpow).2]
 have hF:(EF g e' 23).2 (w0::l)=.ok (node 21 0 w0.text [] w0.pos,l):=by
  show funS g e' (EF g e' 22).1 (EF g e' 22).2 (w0::l)=_
  unfold funS
  rw [outR_no (fun h=>by rw [hout] at h;cases h.1)]
  have e1:∀ t,isT 5 t (w0::l)=false:=fun t=>by simp [isT,k0]
  simp only [Bool.false_eq_true,if_false]
  unfold stemS
  rw [e1,e1]
  simp only [Bool.false_eq_true,if_false,Rs.bind]
  rw [(adv_none hadv hpow).1]
 have hrun:(EF g e' 24).1 false (w0::l)=((EF g e' 23).1 false l).bind fun y=>.ok (mo1 (node 21 0 w0.text [] w0.pos) y.1,y.2.1,y.2.2):=by
  show exprS g e' (EF g e' 23).1 (EF g e' 23).2 false (w0::l)=_
  unfold exprS
  rw [if_neg (by omega),hF]
  rfl
 unfold parseS
 rw [hrun]
 rcases hS with hS|⟨p,hS⟩
 ·right
  rw [hS]
  rfl
 ·left
  rw [hS]
  exact ⟨p,rfl⟩
def Box7 (w:World) (B:Nat) (K O:Int) (S:ByteArray) (s1 s2 sk:Value) (P:Int) (wr:World):Prop :=
 Below w.heap.size w wr∧B<wr.heap.size∧wr.cell? ⟨B,0,none⟩=some (.int .i64 K)∧wr.cell? ⟨B,1,none⟩=some (.int .i64 O)∧wr.cell? ⟨B,2,none⟩=some (.string S)∧wr.cell? ⟨B,3,none⟩=some s1∧wr.cell? ⟨B,4,none⟩=some s2∧wr.cell? ⟨B,5,none⟩=some sk∧wr.cell? ⟨B,6,none⟩=some (.int .i64 P)
theorem box7_new (w:World) (K O:Int) (S:ByteArray) (s1 s2 sk:Value) (P:Int):Box7 w w.heap.size K O S s1 s2 sk P (w.alloc (.cells #[.int .i64 K,.int .i64 O,.string S,s1,s2,sk,.int .i64 P] 39)) :=
 ⟨one_alloc w _,by simp,cell_new0 w _ 39 0 _ rfl,cell_new0 w _ 39 1 _ rfl,cell_new0 w _ 39 2 _ rfl,cell_new0 w _ 39 3 _ rfl,cell_new0 w _ 39 4 _ rfl,cell_new0 w _ 39 5 _ rfl,cell_new0 w _ 39 6 _ rfl⟩
theorem Box7.next {w:World} {B:Nat} {K O:Int} {S:ByteArray} {s1 s2 sk:Value} {P:Int} {wr w':World} (h:Box7 w B K O S s1 s2 sk P wr) (hb:Below wr.heap.size wr w'):Box7 w B K O S s1 s2 sk P w':=by
 obtain ⟨h0,hs,q0,q1,q2,q3,q4,q5,q6⟩:=h
 exact ⟨h0.trans (hb.mono h0.size),Nat.lt_of_lt_of_le hs hb.size,(hb.cell (p:=⟨B,0,none⟩) hs).trans q0,(hb.cell (p:=⟨B,1,none⟩) hs).trans q1,(hb.cell (p:=⟨B,2,none⟩) hs).trans q2,(hb.cell (p:=⟨B,3,none⟩) hs).trans q3,(hb.cell (p:=⟨B,4,none⟩) hs).trans q4,(hb.cell (p:=⟨B,5,none⟩) hs).trans q5,(hb.cell (p:=⟨B,6,none⟩) hs).trans q6⟩
theorem firstUp_all {f:Nat→Int} {m:Nat} (h:∀ i,i<m→f i=0):firstUp f m=0:=by
 induction m with
|zero=>rfl
|succ m ih=>simp only [firstUp];rw [ih fun i hi=>h i (by omega),if_pos rfl];exact h m (by omega)
theorem cmpC_self {f:Ar→Ar→Int} (hf:∀ x,f x x=0) (c:Ce):cmpC f c c=0:=by
 unfold cmpC
 simp [cmp3_self,hf]
theorem cmpA_self (n:Nat) (x:Ar):cmpA n x x=0:=by
 induction n generalizing x with
|zero=>rfl
|succ n ih =>
  simp only [cmpA]
  rw [if_neg (by simp [cmp3_self]),if_neg (by
   have:firstUp (axF x x) x.shape.length=0:=firstUp_all fun i _=>cmp3_self _
   simp [this]),if_neg (by
   have:firstUp (ceF (cmpA n) x x) (min x.cells.length x.cells.length)=0:=firstUp_all fun i _=>cmpC_self ih _
   exact fun h=>h this)]
  exact cmp3_self _
def sameN (n:Nat):Nat→Nd→Nd→Bool
|0,_,_=>false
|m+1,x,y=>decide (x.kind=y.kind)&&decide (x.op=y.op)&&(x.name.toList==y.name.toList)&&decide (cmpA n x.lit y.lit=0)&&(decide (x.kids.length=y.kids.length)&&!anyUp (fun i=>!sameN n m (nAt x.kids i) (nAt y.kids i)) x.kids.length)
def SameC (k m:Nat):Prop:=∀ n x y lo lo' va vb w,NdIn m n lo w x va→NdIn m n lo' w y vb→Calls Try.prog k #[va,vb] w fun e w'=>e=.returned (.bool (sameN n m x y))∧Below w.heap.size w w'
set_option maxHeartbeats 8000000 in
theorem rsame10_step (m:Nat) (IH:SameC 10 m):SameC 10 (m+1):=by
 intro n x y lo lo' va vb w hx hy
 obtain ⟨m',hm',a1,c1,a2,c2,ak,ck,rfl,hA,hl,hs,hK⟩:=hx.letters
 obtain rfl:m=m':=by omega
 obtain ⟨m'',hm'',a1',c1',a2',c2',ak',ck',rfl,hA',hl',hs',hK'⟩:=hy.letters
 obtain rfl:m=m'':=by omega
 have X0:=hide ((box7_new w x.kind x.op x.name (.slice a1 x.lit.shape.length c1) (.slice a2 x.lit.cells.length c2) (.slice ak x.kids.length ck) x.pos).next (one_alloc _ (.cells #[.int .i64 y.kind,.int .i64 y.op,.string y.name,.slice a1' y.lit.shape.length c1',.slice a2' y.lit.cells.length c2',.slice ak' y.kids.length ck',.int .i64 y.pos] 39)))
 have Y0:Hid (Box7 w (w.heap.size+1) y.kind y.op y.name (.slice a1' y.lit.shape.length c1') (.slice a2' y.lit.cells.length c2') (.slice ak' y.kids.length ck') y.pos ((w.alloc (.cells #[.int .i64 x.kind,.int .i64 x.op,.string x.name,.slice a1 x.lit.shape.length c1,.slice a2 x.lit.cells.length c2,.slice ak x.kids.length ck,.int .i64 x.pos] 39)).alloc (.cells #[.int .i64 y.kind,.int .i64 y.op,.string y.name,.slice a1' y.lit.shape.length c1',.slice a2' y.lit.cells.length c2',.slice ak' y.kids.length ck',.int .i64 y.pos] 39))):=by
  have h:=box7_new (w.alloc (.cells #[.int .i64 x.kind,.int .i64 x.op,.string x.name,.slice a1 x.lit.shape.length c1,.slice a2 x.lit.cells.length c2,.slice ak x.kids.length ck,.int .i64 x.pos] 39)) y.kind y.op y.name (.slice a1' y.lit.shape.length c1') (.slice a2' y.lit.cells.length c2') (.slice ak' y.kids.length ck') y.pos
  have hsz:(w.alloc (.cells #[.int .i64 x.kind,.int .i64 x.op,.string x.name,.slice a1 x.lit.shape.length c1,.slice a2 x.lit.cells.length c2,.slice ak x.kids.length ck,.int .i64 x.pos] 39)).heap.size=w.heap.size+1:=by simp
  generalize w.alloc (.cells #[.int .i64 x.kind,.int .i64 x.op,.string x.name,.slice a1 x.lit.shape.length c1,.slice a2 x.lit.cells.length c2,.slice ak x.kids.length ck,.int .i64 x.pos] 39)=W1 at *
  rw [hsz] at h
  exact ⟨X0.out.1,h.2⟩
 have hw0:=X0.out.1
 have HCM:=hide (fun wr (hwr:Below w.heap.size w wr)=>rcmp_any n x.lit y.lit lo lo' _ _ wr (hA.next hwr) (hA'.next hwr))
 simp only [sameN]
 by_cases h1:x.kind=y.kind
 ·by_cases h2:x.op=y.op
  ·cases h3:x.name.toList==y.name.toList with
  |false =>
    clear hA hA' hK hK' hx hy IH HCM
    generalize cmpA n x.lit y.lit=CM
    generalize (decide (x.kids.length=y.kids.length)&&!anyUp (fun i=>!sameN n m (nAt x.kids i) (nAt y.kids i)) x.kids.length)=EE
    generalize x.kind=K at *
    generalize x.op=O at *
    generalize x.name=S at *
    generalize x.pos=P at *
    generalize x.lit.shape.length=L1 at *
    generalize x.lit.cells.length=L2 at *
    generalize x.kids.length=LK at *
    generalize y.kind=K' at *
    generalize y.op=O' at *
    generalize y.name=S' at *
    generalize y.pos=P' at *
    generalize y.lit.shape.length=L1' at *
    generalize y.lit.cells.length=L2' at *
    generalize y.kids.length=LK' at *
    subst h1 h2
    go_enter Try.func10,Try.ntmps10
    go_wp2
    all_goals go_ret
    all_goals exact ⟨retB (by simp_all),hw0⟩
  |true =>
    by_cases h5:x.kids.length=y.kids.length
    ·by_cases h4:cmpA n x.lit y.lit=0
     ·have HKS:Hid (∀ j,j<x.kids.length→∃ b1 off KK OO SS AA1 LL1 CC1 AA2 LL2 CC2 AAK LLK CCK PP b2 off' KK' OO' SS' AA1' LL1' CC1' AA2' LL2' CC2' AAK' LLK' CCK' PP',ak=some ⟨b1,off,none⟩∧ak'=some ⟨b2,off',none⟩∧∀ wr,Below w.heap.size w wr→(wr.cell? ⟨b1,off+j*7,none⟩=some (.int .i64 KK)∧wr.cell? ⟨b1,off+j*7+1,none⟩=some (.int .i64 OO)∧wr.cell? ⟨b1,off+j*7+2,none⟩=some (.string SS)∧wr.cell? ⟨b1,off+j*7+3,none⟩=some (.slice AA1 LL1 CC1)∧wr.cell? ⟨b1,off+j*7+4,none⟩=some (.slice AA2 LL2 CC2)∧wr.cell? ⟨b1,off+j*7+5,none⟩=some (.slice AAK LLK CCK)∧wr.cell? ⟨b1,off+j*7+6,none⟩=some (.int .i64 PP))∧(wr.cell? ⟨b2,off'+j*7,none⟩=some (.int .i64 KK')∧wr.cell? ⟨b2,off'+j*7+1,none⟩=some (.int .i64 OO')∧wr.cell? ⟨b2,off'+j*7+2,none⟩=some (.string SS')∧wr.cell? ⟨b2,off'+j*7+3,none⟩=some (.slice AA1' LL1' CC1')∧wr.cell? ⟨b2,off'+j*7+4,none⟩=some (.slice AA2' LL2' CC2')∧wr.cell? ⟨b2,off'+j*7+5,none⟩=some (.slice AAK' LLK' CCK')∧wr.cell? ⟨b2,off'+j*7+6,none⟩=some (.int .i64 PP')) ∧
        Calls Try.prog 10 #[.agg #[.int .i64 KK,.int .i64 OO,.string SS,.slice AA1 LL1 CC1,.slice AA2 LL2 CC2,.slice AAK LLK CCK,.int .i64 PP],.agg #[.int .i64 KK',.int .i64 OO',.string SS',.slice AA1' LL1' CC1',.slice AA2' LL2' CC2',.slice AAK' LLK' CCK',.int .i64 PP']] wr fun e w'=>e=.returned (.bool (sameN n m (nAt x.kids j) (nAt y.kids j)))∧Below wr.heap.size wr w'):=by
       intro j hj
       obtain ⟨b1,off,KK,OO,SS,AA1,LL1,CC1,AA2,LL2,CC2,AAK,LLK,CCK,PP,ha,-,hw⟩:=kid_cells hK hj
       obtain ⟨b2,off',KK',OO',SS',AA1',LL1',CC1',AA2',LL2',CC2',AAK',LLK',CCK',PP',hb,-,hw'⟩:=kid_cells hK' (j:=j) (by omega)
       exact ⟨b1,off,KK,OO,SS,AA1,LL1,CC1,AA2,LL2,CC2,AAK,LLK,CCK,PP,b2,off',KK',OO',SS',AA1',LL1',CC1',AA2',LL2',CC2',AAK',LLK',CCK',PP',ha,hb,fun wr hwr=>⟨(hw wr hwr).1,(hw' wr hwr).1,IH n _ _ lo lo' _ _ wr (hw wr hwr).2 (hw' wr hwr).2⟩⟩
      have HHIT:Hid (∀ j,j<x.kids.length→sameN n m (nAt x.kids j) (nAt y.kids j)=false→(!anyUp (fun i=>!sameN n m (nAt x.kids i) (nAt y.kids i)) x.kids.length)=false):=fun j hj h=>by
       rw [anyUp_hit hj (by simp [h])]
       rfl
      have HNO:Hid ((∀ j,j<x.kids.length→sameN n m (nAt x.kids j) (nAt y.kids j)=true)→(!anyUp (fun i=>!sameN n m (nAt x.kids i) (nAt y.kids i)) x.kids.length)=true):=fun h=>by
       rw [anyUp_none.2 fun i hi=>by simp [h i hi]]
       rfl
      rw [decide_eq_true h1,decide_eq_true h2,decide_eq_true h4,decide_eq_true h5]
      simp only [Bool.true_and]
      generalize (!anyUp (fun i=>!sameN n m (nAt x.kids i) (nAt y.kids i)) x.kids.length)=Z at *
      generalize hF:(fun i=>sameN n m (nAt x.kids i) (nAt y.kids i))=F at *
      have HF:Hid (∀ j,sameN n m (nAt x.kids j) (nAt y.kids j)=F j):=fun j=>by rw [←hF]
      rw [h4] at HCM
      clear hF hA hA' hK hK' hx hy IH h4
      generalize x.kind=K at *
      generalize x.op=O at *
      generalize x.name=S at *
      generalize x.pos=P at *
      generalize x.lit.shape.length=L1 at *
      generalize x.lit.cells.length=L2 at *
      generalize x.kids.length=L at *
      generalize y.kind=K' at *
      generalize y.op=O' at *
      generalize y.name=S' at *
      generalize y.pos=P' at *
      generalize y.lit.shape.length=L1' at *
      generalize y.lit.cells.length=L2' at *
      generalize y.kids.length=LK' at *
      subst h1 h2 h5
      clear hl'
      go_enter Try.func10,Try.ntmps10
      go_wp2_with fail
      refine (HCM.out _ hw0).mono ?_
      rintro e w1 ⟨rfl,hb1⟩
      have X1:=hide (X0.out.next hb1)
      have Y1:=hide (Y0.out.next hb1)
      clear hb1
      obtain ⟨hw1,-,q0,q1,q2,q3,q4,q5,q6⟩:=X1.out
      obtain ⟨-,-,r0,r1,r2,r3,r4,r5,r6⟩:=Y1.out
      go_wp2
      go_loopg [5] L (fun g i wr=>∃ (j:Nat),g+j=L∧i=.int .i64 (j:Int)∧(∀ i,i<j→F i=true)∧Box7 w w.heap.size K O S (.slice a1 L1 c1) (.slice a2 L2 c2) (.slice ak L ck) P wr∧Box7 w (w.heap.size+1) K O S' (.slice a1' L1' c1') (.slice a2' L2' c2') (.slice ak' L ck') P' wr)
      case atStart=>exact ⟨0,rfl,rfl,(by intro i hi;omega),X1.out,Y1.out⟩
      case round =>
       clear q0 q1 q2 q3 q4 q5 q6 r0 r1 r2 r3 r4 r5 r6 hw1 X1 Y1 X0 Y0 hw0
       obtain ⟨j,hj,rfl,hno,hX,hY⟩:=hrel
       have HN:=hide hno
       have HX:=hide hX
       have HY:=hide hY
       clear hno
       obtain ⟨hnx,-,q0,q1,q2,q3,q4,q5,q6⟩:=hX
       obtain ⟨-,-,r0,r1,r2,r3,r4,r5,r6⟩:=hY
       clear q0 q1 q2 q3 q4 q6 r0 r1 r2 r3 r4 r6
       by_cases hlt:j<L
       ·obtain ⟨b1,off,KK,OO,SS,AA1,LL1,CC1,AA2,LL2,CC2,AAK,LLK,CCK,PP,b2,off',KK',OO',SS',AA1',LL1',CC1',AA2',LL2',CC2',AAK',LLK',CCK',PP',rfl,rfl,hw⟩:=HKS.out j hlt
        have HH:=hide (HHIT.out j hlt)
        rw [HF.out j] at HH
        have HFJ0:=hide (HF.out j)
        clear HKS HHIT HNO HF
        have KS:Hid (∀ W,Below wr.heap.size wr W→Below wr.heap.size wr W∧W.cell? ⟨w.heap.size,5,none⟩=some (.slice (some ⟨b1,off,none⟩) L ck)∧W.cell? ⟨w.heap.size+1,5,none⟩=some (.slice (some ⟨b2,off',none⟩) L ck')∧(W.cell? ⟨b1,off+j*7,none⟩=some (.int .i64 KK)∧W.cell? ⟨b1,off+j*7+1,none⟩=some (.int .i64 OO)∧W.cell? ⟨b1,off+j*7+2,none⟩=some (.string SS)∧W.cell? ⟨b1,off+j*7+3,none⟩=some (.slice AA1 LL1 CC1)∧W.cell? ⟨b1,off+j*7+4,none⟩=some (.slice AA2 LL2 CC2)∧W.cell? ⟨b1,off+j*7+5,none⟩=some (.slice AAK LLK CCK)∧W.cell? ⟨b1,off+j*7+6,none⟩=some (.int .i64 PP)) ∧
          (W.cell? ⟨b2,off'+j*7,none⟩=some (.int .i64 KK')∧W.cell? ⟨b2,off'+j*7+1,none⟩=some (.int .i64 OO')∧W.cell? ⟨b2,off'+j*7+2,none⟩=some (.string SS')∧W.cell? ⟨b2,off'+j*7+3,none⟩=some (.slice AA1' LL1' CC1')∧W.cell? ⟨b2,off'+j*7+4,none⟩=some (.slice AA2' LL2' CC2')∧W.cell? ⟨b2,off'+j*7+5,none⟩=some (.slice AAK' LLK' CCK')∧W.cell? ⟨b2,off'+j*7+6,none⟩=some (.int .i64 PP'))):=fun W h=>⟨h,(HX.out.next h).2.2.2.2.2.2.2.1,(HY.out.next h).2.2.2.2.2.2.2.1,(hw W (hnx.trans (h.mono hnx.size))).1,(hw W (hnx.trans (h.mono hnx.size))).2.1⟩
        have HCC:Hid (∀ W,Below wr.heap.size wr W→Calls Try.prog 10 #[.agg #[.int .i64 KK,.int .i64 OO,.string SS,.slice AA1 LL1 CC1,.slice AA2 LL2 CC2,.slice AAK LLK CCK,.int .i64 PP],.agg #[.int .i64 KK',.int .i64 OO',.string SS',.slice AA1' LL1' CC1',.slice AA2' LL2' CC2',.slice AAK' LLK' CCK',.int .i64 PP']] W fun e w'=>e=.returned (.bool (F j))∧Below wr.heap.size wr w'):=fun W h=>(hw W (hnx.trans (h.mono hnx.size))).2.2.mono fun e w' ⟨he,hb⟩=>⟨by rw [he,HFJ0.out],h.trans (hb.mono h.size)⟩
        have HD0:Hid (Below wr.heap.size wr wr.drew):=(Below.refl _ _).drew
        clear hw HFJ0
        cases hFJ:F j with
       |true =>
         rw [hFJ] at HCC
         have HFJ:=hide hFJ
         clear hFJ HH
         go_upto_region 6 with fail
         go_region_held3 (fun W=>Below wr.heap.size wr W∧W.cell? ⟨w.heap.size,5,none⟩=some (.slice (some ⟨b1,off,none⟩) L ck)∧W.cell? ⟨w.heap.size+1,5,none⟩=some (.slice (some ⟨b2,off',none⟩) L ck')∧(W.cell? ⟨b1,off+j*7,none⟩=some (.int .i64 KK)∧W.cell? ⟨b1,off+j*7+1,none⟩=some (.int .i64 OO)∧W.cell? ⟨b1,off+j*7+2,none⟩=some (.string SS)∧W.cell? ⟨b1,off+j*7+3,none⟩=some (.slice AA1 LL1 CC1)∧W.cell? ⟨b1,off+j*7+4,none⟩=some (.slice AA2 LL2 CC2)∧W.cell? ⟨b1,off+j*7+5,none⟩=some (.slice AAK LLK CCK)∧W.cell? ⟨b1,off+j*7+6,none⟩=some (.int .i64 PP))∧(W.cell? ⟨b2,off'+j*7,none⟩=some (.int .i64 KK')∧W.cell? ⟨b2,off'+j*7+1,none⟩=some (.int .i64 OO')∧W.cell? ⟨b2,off'+j*7+2,none⟩=some (.string SS')∧W.cell? ⟨b2,off'+j*7+3,none⟩=some (.slice AA1' LL1' CC1')∧W.cell? ⟨b2,off'+j*7+4,none⟩=some (.slice AA2' LL2' CC2')∧W.cell? ⟨b2,off'+j*7+5,none⟩=some (.slice AAK' LLK' CCK')∧W.cell? ⟨b2,off'+j*7+6,none⟩=some (.int .i64 PP'))) (first|with_reducible exact KS.out _ HD0.out|with_reducible exact KS.out _ (by with_reducible assumption)) (first|(go_at_call 10;refine (HCC.out _ HD0.out).mono ?_;rintro e w9 ⟨rfl,hb9⟩))
         go_wp2
         go_roundg (L-(j+1))
         case rel =>
          refine ⟨j+1,by omega,by go_num,fun i hi=>?_,HX.out.next hb9,HY.out.next hb9⟩
          rcases Nat.lt_succ_iff_lt_or_eq.1 hi with hi|rfl
          ·exact HN.out i hi
          ·exact HFJ.out
         case measure=>omega
       |false =>
         rw [hFJ] at HCC
         have HZ:=hide (HH.out hFJ)
         clear hFJ HH HN
         go_upto_region 6 with fail
         go_region_held3 (fun W=>Below wr.heap.size wr W∧W.cell? ⟨w.heap.size,5,none⟩=some (.slice (some ⟨b1,off,none⟩) L ck)∧W.cell? ⟨w.heap.size+1,5,none⟩=some (.slice (some ⟨b2,off',none⟩) L ck')∧(W.cell? ⟨b1,off+j*7,none⟩=some (.int .i64 KK)∧W.cell? ⟨b1,off+j*7+1,none⟩=some (.int .i64 OO)∧W.cell? ⟨b1,off+j*7+2,none⟩=some (.string SS)∧W.cell? ⟨b1,off+j*7+3,none⟩=some (.slice AA1 LL1 CC1)∧W.cell? ⟨b1,off+j*7+4,none⟩=some (.slice AA2 LL2 CC2)∧W.cell? ⟨b1,off+j*7+5,none⟩=some (.slice AAK LLK CCK)∧W.cell? ⟨b1,off+j*7+6,none⟩=some (.int .i64 PP))∧(W.cell? ⟨b2,off'+j*7,none⟩=some (.int .i64 KK')∧W.cell? ⟨b2,off'+j*7+1,none⟩=some (.int .i64 OO')∧W.cell? ⟨b2,off'+j*7+2,none⟩=some (.string SS')∧W.cell? ⟨b2,off'+j*7+3,none⟩=some (.slice AA1' LL1' CC1')∧W.cell? ⟨b2,off'+j*7+4,none⟩=some (.slice AA2' LL2' CC2')∧W.cell? ⟨b2,off'+j*7+5,none⟩=some (.slice AAK' LLK' CCK')∧W.cell? ⟨b2,off'+j*7+6,none⟩=some (.int .i64 PP'))) (first|with_reducible exact KS.out _ HD0.out|with_reducible exact KS.out _ (by with_reducible assumption)) (first|(go_at_call 10;refine (HCC.out _ HD0.out).mono ?_;rintro e w9 ⟨rfl,hb9⟩))
         go_wp2
         go_ret
         exact ⟨retB HZ.out.symm,(HX.out.next hb9).1⟩
       ·have hje:j=L:=by omega
        subst hje
        have HZ:=hide (HNO.out fun i hi=>by rw [HF.out i];exact HN.out i hi)
        clear HKS HHIT HNO HN HF
        go_wp2
        go_ret
        exact ⟨retB HZ.out.symm,HX.out.1⟩
     ·have h4':(cmpA n x.lit y.lit==0)=false:=beq_eq_false_iff_ne.2 h4
      have h4'':(cmpA n x.lit y.lit != 0)=true:=by simp [h4]
      clear hA hA' hK hK' hx hy IH
      generalize (decide (x.kids.length=y.kids.length)&&!anyUp (fun i=>!sameN n m (nAt x.kids i) (nAt y.kids i)) x.kids.length)=EE
      generalize cmpA n x.lit y.lit=CM at *
      generalize x.kind=K at *
      generalize x.op=O at *
      generalize x.name=S at *
      generalize x.pos=P at *
      generalize x.lit.shape.length=L1 at *
      generalize x.lit.cells.length=L2 at *
      generalize x.kids.length=LK at *
      generalize y.kind=K' at *
      generalize y.op=O' at *
      generalize y.name=S' at *
      generalize y.pos=P' at *
      generalize y.lit.shape.length=L1' at *
      generalize y.lit.cells.length=L2' at *
      generalize y.kids.length=LK' at *
      subst h1 h2 h5
      go_enter Try.func10,Try.ntmps10
      go_wp2_with fail
      refine (HCM.out _ hw0).mono ?_
      rintro e w1 ⟨rfl,hb1⟩
      have X1:=hide (X0.out.next hb1)
      have Y1:=hide (Y0.out.next hb1)
      clear hb1
      obtain ⟨hw1,-,q0,q1,q2,q3,q4,q5,q6⟩:=X1.out
      obtain ⟨-,-,r0,r1,r2,r3,r4,r5,r6⟩:=Y1.out
      go_wp2
      all_goals go_ret
      all_goals exact ⟨retB (by simp_all),hw1⟩
    ·have h5':((x.kids.length:Int)==(y.kids.length:Int))=false:=beq_eq_false_iff_ne.2 (by omega)
     have h5'':((x.kids.length:Int) != (y.kids.length:Int))=true:=by simp;omega
     clear hA hA' hK hK' hx hy IH HCM
     rw [decide_eq_false h5]
     generalize cmpA n x.lit y.lit=CM
     generalize x.kind=K at *
     generalize x.op=O at *
     generalize x.name=S at *
     generalize x.pos=P at *
     generalize x.lit.shape.length=L1 at *
     generalize x.lit.cells.length=L2 at *
     generalize x.kids.length=LK at *
     generalize y.kind=K' at *
     generalize y.op=O' at *
     generalize y.name=S' at *
     generalize y.pos=P' at *
     generalize y.lit.shape.length=L1' at *
     generalize y.lit.cells.length=L2' at *
     generalize y.kids.length=LK' at *
     subst h1 h2
     go_enter Try.func10,Try.ntmps10
     go_wp2
     all_goals go_ret
     all_goals exact ⟨retB (by simp_all),hw0⟩
  ·clear hA hA' hK hK' hx hy IH HCM
   generalize cmpA n x.lit y.lit=CM
   generalize (decide (x.kids.length=y.kids.length)&&!anyUp (fun i=>!sameN n m (nAt x.kids i) (nAt y.kids i)) x.kids.length)=EE
   generalize x.kind=K at *
   generalize x.op=O at *
   generalize x.name=S at *
   generalize x.pos=P at *
   generalize x.lit.shape.length=L1 at *
   generalize x.lit.cells.length=L2 at *
   generalize x.kids.length=LK at *
   generalize y.kind=K' at *
   generalize y.op=O' at *
   generalize y.name=S' at *
   generalize y.pos=P' at *
   generalize y.lit.shape.length=L1' at *
   generalize y.lit.cells.length=L2' at *
   generalize y.kids.length=LK' at *
   subst h1
   have h2':(O==O')=false:=beq_eq_false_iff_ne.2 h2
   have h2'':(O != O')=true:=by simp [h2]
   go_enter Try.func10,Try.ntmps10
   go_wp2
   all_goals go_ret
   all_goals exact ⟨retB (by simp_all),hw0⟩
 ·clear hA hA' hK hK' hx hy IH HCM
  generalize cmpA n x.lit y.lit=CM
  generalize (decide (x.kids.length=y.kids.length)&&!anyUp (fun i=>!sameN n m (nAt x.kids i) (nAt y.kids i)) x.kids.length)=EE
  generalize x.kind=K at *
  generalize x.op=O at *
  generalize x.name=S at *
  generalize x.pos=P at *
  generalize x.lit.shape.length=L1 at *
  generalize x.lit.cells.length=L2 at *
  generalize x.kids.length=LK at *
  generalize y.kind=K' at *
  generalize y.op=O' at *
  generalize y.name=S' at *
  generalize y.pos=P' at *
  generalize y.lit.shape.length=L1' at *
  generalize y.lit.cells.length=L2' at *
  generalize y.kids.length=LK' at *
  have h1':(K==K')=false:=beq_eq_false_iff_ne.2 h1
  have h1'':(K != K')=true:=by simp [h1]
  go_enter Try.func10,Try.ntmps10
  go_wp2
  all_goals go_ret
  all_goals exact ⟨retB (by simp_all),hw0⟩
theorem rsame10 (m:Nat):SameC 10 m:=by
 induction m with
|zero=>exact fun n x y lo lo' va vb w hx=>hx.elim
|succ m ih=>exact rsame10_step m ih
theorem sameN_self {m n n' lo:Nat} {w:World} {x:Nd} {v:Value} (k:Nat) (h:NdIn m n' lo w x v):sameN k m x x=true:=by
 induction m generalizing x v with
|zero=>exact h.elim
|succ m ih =>
  obtain ⟨m',hm',a1,c1,a2,c2,ak,ck,rfl,hA,hl,hs,hK⟩:=h.letters
  obtain rfl:m=m':=by omega
  have hk:anyUp (fun i=>!sameN k m (nAt x.kids i) (nAt x.kids i)) x.kids.length=false:=anyUp_none.2 fun i hi=>by
   obtain ⟨b,off,K,O,S,A1,L1,C1,A2,L2,C2,AK,LK,CK,P,ha,-,hw⟩:=kid_cells hK hi
   simp only [ih (hw w (Below.refl _ _)).2,Bool.not_true]
  simp only [sameN,cmpA_self,hk,decide_true,beq_self_eq_true,Bool.and_self,Bool.not_false]
def Er {α:Type} (x:Rs α):Prop:=∀ e p,x=.bad e p→e=2∨e=15
theorem Er.ok {α:Type} {a:α}:Er (.ok a):=fun e p h=>by cases h
theorem Er.stuck {α:Type}:Er (.stuck:Rs α):=fun e p h=>by cases h
theorem Er.two {α:Type} {p:Int}:Er (.bad 2 p:Rs α):=fun e q h=>by cases h;exact Or.inl rfl
theorem Er.deep {α:Type} {p:Int}:Er (.bad 15 p:Rs α):=fun e q h=>by cases h;exact Or.inr rfl
theorem Er.bind {α β:Type} {x:Rs α} {f:α→Rs β} (hx:Er x) (hf:∀ a,Er (f a)):Er (x.bind f):=fun e p h=>by
 cases x with
|ok a=>exact hf a e p h
|bad e' p'=>cases h;exact hx e p rfl
|stuck=>cases h
theorem wordS_er {g:Gr} {e:Int} {inn:Bool} {l:List Wo}:Er (wordS g e inn l):=by
 cases l with
|nil=>exact Er.two
|cons x r =>
  simp only [wordS]
  split
  ·exact Er.ok
  split
  ·exact Er.ok
  split
  ·exact Er.ok
  split
  ·exact Er.ok
  ·exact Er.two
theorem closeS_er {e:Int} {t:ByteArray} {l:List Wo}:Er (closeS e t l):=by
 unfold closeS
 split
 ·exact Er.ok
 ·exact Er.two
def ErE (E:ET):Prop:=∀ inn l,Er (E inn l)
def ErF (F:FT):Prop:=∀ l,Er (F l)
theorem bareS_er {g:Gr} {e:Int} {E:ET} (hE:ErE E):ErE (bareS g e E):=fun inn l=>by
 unfold bareS
 split
 ·exact (hE _ _).bind fun q=>closeS_er.bind fun r=>Er.ok
 ·exact wordS_er.bind fun q=>Er.ok
theorem sqS_er {g:Gr} {e:Int} {E:ET} (hE:ErE E) (inn:Bool) (p:Int) (f:Nat):∀ n l nm,Er (sqS g e E inn p f n l nm):=by
 induction f with
|zero=>intro n l nm;exact Er.stuck
|succ f ih =>
  intro n l nm
  simp only [sqS]
  split
  ·exact (hE _ _).bind fun q=>closeS_er.bind fun r=>ih _ _ _
  ·exact Er.ok
theorem operS_er {g:Gr} {e:Int} {E:ET} (hE:ErE E):ErE (operS g e E):=fun inn l=>by
 unfold operS
 exact (bareS_er hE inn l).bind fun q=>sqS_er hE _ _ _ _ _ _
theorem textS_er {g:Gr} {e:Int} {E:ET} (hE:ErE E) (l:List Wo):Er (textS g e E l):=by
 unfold textS
 refine (hE _ _).bind fun q=>closeS_er.bind fun r=>?_
 split
 ·exact Er.ok
 split
 ·exact Er.two
 ·exact Er.ok
theorem trS_er {F:FT} (hF:ErF F) (f:Nat):∀ ps l,Er (trS F f ps l):=by
 induction f with
|zero=>intro ps l;exact Er.stuck
|succ f ih =>
  intro ps l
  simp only [trS]
  split
  ·split
   ·exact Er.stuck
   ·exact Er.ok
  ·exact (hF l).bind fun q=>ih _ _
theorem stemS_er {g:Gr} {e:Int} {E:ET} {F:FT} (hE:ErE E) (hF:ErF F) (l:List Wo):Er (stemS g e E F l):=by
 unfold stemS
 split
 ·exact textS_er hE l
 split
 ·unfold trainS
  exact (trS_er hF _ _ _).bind fun q=>Er.ok
 ·split
  ·exact Er.stuck
  ·exact Er.ok
theorem funS_er {g:Gr} {e:Int} {E:ET} {F:FT} (hE:ErE E) (hF:ErF F):ErF (funS g e E F):=fun l=>by
 unfold funS
 exact (stemS_er hE hF _).bind fun q=>Er.ok
theorem exprS_er {g:Gr} {e:Int} {E:ET} {F:FT} (hE:ErE E) (hF:ErF F):ErE (exprS g e E F):=fun inn l=>by
 unfold exprS
 split
 ·refine (operS_er hE inn l).bind fun q=>?_
  split
  ·exact Er.ok
  split
  ·exact Er.two
  refine (hF _).bind fun f=>?_
  split
  ·split
   ·exact (hE _ _).bind fun y=>Er.ok
   ·exact Er.two
  ·exact (hE _ _).bind fun y=>Er.ok
 ·exact (hF _).bind fun f=>(hE _ _).bind fun x=>Er.ok
theorem EF_er (g:Gr) (e:Int) (d:Nat):ErE (EF g e d).1∧ErF (EF g e d).2:=by
 induction d with
|zero=>exact ⟨fun _ _=>Er.deep,fun _=>Er.deep⟩
|succ d ih=>exact ⟨exprS_er ih.1 ih.2,funS_er ih.1 ih.2⟩
theorem parse_er {g:Gr} {e:Int} {l:List Wo} {er p:Int} (h:parseS g e l=.bad er p):er=2∨er=15:=by
 refine (show Er (parseS g e l) from ?_) er p h
 unfold parseS
 refine ((EF_er g e 24).1 _ _).bind fun q=>?_
 split
 ·exact Er.ok
 ·exact Er.two
theorem WoR.deeper {n m:Nat} {w:World} {a:Option Addr} {ws:List Wo} (h:WoR n w a ws) (hm:n≤m):WoR m w a ws:=fun i hi=>by
 obtain ⟨b,off,z1,m1,z2,m2,ha,hl,h0,h1,h2,h3,h4,h5,h6⟩:=h i hi
 exact ⟨b,off,z1,m1,z2,m2,ha,hl,h0,h1,h2,h3,h4,h5,h6.deep hm⟩
end Go.Proofs.Ytnaejfoighmfeaa
namespace Go.Proofs.Ytnaejfoighmfeaa.Rn
open Go.ChangeShapes Go.WideShapes Go.ChangeAt Go.RowKit
set_option maxRecDepth 100000
set_option linter.unusedVariables false
set_option linter.unusedSimpArgs false
def GvPl (g:Gr) (e:Int) (ws:List Wo) (n:Nat) (w:World) (en:Ending) (w':World):Prop:=Below w.heap.size w w'∧∃ (k o:Int) (nm:ByteArray) (z1:Option Addr) (l1 m1:Nat) (z2:Option Addr) (l2 m2:Nat) (zk:Option Addr) (lk mk:Nat) (p er pl:Int),
 en=.returned (.tuple #[.agg #[.int .i64 k,.int .i64 o,.string nm,.slice z1 l1 m1,.slice z2 l2 m2,.slice zk lk mk,.int .i64 p],.agg #[.int .i64 er,.int .i64 pl,.int .i64 0]]) ∧
 (er=0→∃ x m,parseS g e ws=.ok x∧NdIn m (n+1) 0 w' x (.agg #[.int .i64 k,.int .i64 o,.string nm,.slice z1 l1 m1,.slice z2 l2 m2,.slice zk lk mk,.int .i64 p]))∧(∀ x,parseS g e ws=.ok x→er=0)∧∀ q,parseS g e ws=.bad 15 q→er=15
theorem parse9l {n:Nat} {w0 w:World} {g:Gr} {R:Raw} {ws:List Wo} {e:Int} (ho:Below w0.heap.size w0 w) (sv:StrsIn w0 R.av g.verbs) (sa:StrsIn w0 R.aa g.adverbs) (sb:StrsIn w0 R.ab g.behind) (wo:WoIn (n+1) w0 R.aw ws) :
  Calls Try.prog 9 #[gV g R,.slice R.aw ws.length R.cw,.int .i64 e] w fun en w'=>GvPl g e ws n w en w':=by
 refine (parse9 ho sv sa sb wo).mono fun en w' h=>?_
 unfold GvP at h
 obtain ⟨hb,h⟩:=h
 refine ⟨hb,?_⟩
 cases hp:parseS g e ws with
|stuck=>rw [hp] at h;exact h.elim
|bad er pl =>
  rw [hp] at h
  have her:=parse_er hp
  exact ⟨0,0,⟨#[]⟩,none,0,0,none,0,0,none,0,0,0,er,pl,h,fun h0=>by omega,(fun x hx=>by cases hx),(fun q hq=>by cases hq;rfl)⟩
|ok x =>
  rw [hp] at h
  obtain ⟨v,m,he,htr⟩:=h
  have hin:=htr.ndIn
  obtain ⟨m',hm',a1,c1,a2,c2,ak,ck,rfl,-,-,-,-⟩:=htr.form
  exact ⟨_,_,_,_,_,_,_,_,_,_,_,_,_,0,0,he,fun _=>⟨x,m,rfl,hin⟩,(fun y hy=>rfl),(fun q hq=>by cases hq)⟩
end Go.Proofs.Ytnaejfoighmfeaa.Rn
namespace Go.Proofs.Ytnaejfoighmfeaa
open Go.ChangeShapes Go.WideShapes Go.ChangeAt Go.RowKit
set_option maxRecDepth 100000
set_option linter.unusedVariables false
set_option linter.unusedSimpArgs false
theorem wpList_append_G {P:Program} {w:World} {ops:Array Oper} {rest:List Oper} {o:Oper} {a:Act} {Q:Exit→Act→World→Prop} (hgd:o.guard=none) (s x:Operand) (t:TypeId)
  (ho:o.op=.call { callee:=.builtin .append,args:=#[s,x],argTypes:=#[t,t] })
  (base:Nat) (e:TypeId) (i:TypeInfo) (z:Value) (size bytes:Nat) (ht:P.underlying t=some (.slice e)) (hi:P.info? e=some i) (hz:i.zero=some z)
  (hsize:i.size=size) (hby:i.bytes=bytes) (hzs:z.cells.size=size) (hsz:0<size)
  (v:Value) (n:Nat) (xs:List Value) (hs:a.eval s=v) (hown:w.ownsRow base e size v n xs)
  (ad:Option Addr) (m c:Nat) (news:List Value) (hx:a.eval x=.slice ad m c) (hl:news.length=m*size) (hnews:Lies w ad news)
  (h63:n+m≤maxLen) (hbytes:(n+m)*bytes≤140737488355328) (hbase:base≤w.heap.size)
  (h:∀ v' w',w'.ownsRow base e size v' (n+m) (xs++news)→w.grownBy w' v.ownBlock→wpList P ops Q rest (a.put o.dst v') w'):wpList P ops Q (o::rest) a w:=by
 cases ad with
|none =>
  have hn:news=[]:=by
   rcases hnews.1 with h|⟨p,hp,-⟩
   ·exact h
   ·cases hp
  subst hn
  have hm:m=0:=by
   rcases Nat.eq_zero_or_pos m with h|h
   ·exact h
   ·have:=Nat.mul_pos h hsz;simp at hl;omega
  subst hm
  exact wpList_append_run (by simp [Region.wanted,hgd]) s x t t ho _ _ hs hx v w (run_append_none_any base t o.type e i size ht hi v n c xs hown) (h v w (by simpa using hown) (World.grownBy.refl _ _))
|some p =>
  have hc:∀ j u,news[j]?=some u→w.cell? (p.add j)=some u:=by
   rcases hnews.1 with h|⟨q,hq,-,h⟩
   ·subst h;intro j u hj;simp at hj
   ·cases hq;exact h
  obtain ⟨v',w',hr,h2,h3,-⟩:=run_append_own (P:=P) w base t o.type e i z size bytes ht hi hz hsize hby hzs hsz v n xs hown p m c news hl hc hnews.2 h63 hbytes hbase
  exact wpList_append_run (by simp [Region.wanted,hgd]) s x t t ho _ _ hs hx v' w' hr (h v' w' h2 h3)
end Go.Proofs.Ytnaejfoighmfeaa
namespace Go.Proofs.Ytnaejfoighmfeaa.Rn
open Go.ChangeShapes Go.WideShapes Go.ChangeAt Go.RowKit
set_option maxRecDepth 100000
set_option linter.unusedVariables false
set_option linter.unusedSimpArgs false
theorem RowOf.cells1 {W:World} {ts:List Wo} {vs:List Value} (h:RowOf W ts vs):∀ u∈vs,u.oneCell'=true:=fun u hu=>by
 obtain ⟨j,hj⟩:=List.mem_iff_getElem?.1 hu
 have hlt:j<vs.length:=(List.getElem?_eq_some_iff.1 hj).1
 rw [h.1] at hlt
 obtain ⟨z,h1,-,-⟩:=h.2 (j / 5) (by omega)
 have h2:=h1 (j % 5) (by omega)
 rw [show j / 5*5+j % 5=j by omega,hj] at h2
 cases h2
 rcases (by omega:j % 5=0∨j % 5=1∨j % 5=2∨j % 5=3∨j % 5=4) with h|h|h|h|h<;>rw [h]<;>rfl
theorem RowOf.lies {w W:World} {ts:List Wo} {xs:List Value} {a:Option Addr} (h:RowOf W ts xs) (hs:w.heap.size≤W.heap.size) (hl:∀ j u,xs[j]?=some u→∃ b off,a=some ⟨b,off,none⟩∧b<w.heap.size∧W.cell? ⟨b,off+j,none⟩=some u):Lies W a xs:=by
 refine ⟨?_,h.cells1⟩
 cases hx:xs with
|nil=>exact Or.inl rfl
|cons u t =>
  right
  obtain ⟨b,off,ha,hb,-⟩:=hl 0 u (by rw [hx];rfl)
  refine ⟨⟨b,off,none⟩,ha,Nat.lt_of_lt_of_le hb hs,fun j v hv=>?_⟩
  obtain ⟨b',off',ha',-,hc⟩:=hl j v (by rw [hx];exact hv)
  rw [ha] at ha'
  cases ha'
  rw [add_off]
  exact hc
theorem WoR_room {n:Nat} {w:World} {a:Option Addr} {ws:List Wo} (h:WoR n w a ws) (hl:ws.length≤1000) (hs:∀ t∈ws,t.lit.shape.length≤5000∧t.lit.cells.length≤5000):WoIn n w a ws :=
 ⟨hl,fun i hi=>by
  obtain ⟨b,off,z1,m1,z2,m2,ha,hlt,h0,h1,h2,h3,h4,h5,h6⟩:=h i hi
  have hm:wAt ws i∈ws:=by
   have he:wAt ws i=ws[i]:=by simp [wAt,hi]
   rw [he];exact List.getElem_mem hi
  exact ⟨b,off,z1,m1,z2,m2,ha,hlt,h0,h1,h2,h3,h4,⟨h5,hs _ hm⟩,h6⟩⟩
theorem few_mem {g:Gr} {ws:List Wo} (h:Few g ws):∀ t∈ws,t.lit.shape.length≤5000∧t.lit.cells.length≤5000:=fun t ht=>by
 obtain ⟨i,hi,rfl⟩:=List.mem_iff_getElem.1 ht
 have he:wAt ws i=ws[i]:=by simp [wAt,hi]
 rw [←he]
 exact h.2.2.2.2 i hi
theorem strs_next {w w':World} {a:Option Addr} {l:List ByteArray} (h:StrsIn w a l) (hb:Below w.heap.size w w'):StrsIn w' a l:=⟨h.1,fun j hj=>by
 obtain ⟨b,off,he,hl,hc⟩:=h.2 j hj
 exact ⟨b,off,he,Nat.lt_of_lt_of_le hl hb.size,(hb.cell (p:=⟨b,off+j,none⟩) hl).trans hc⟩⟩
end Go.Proofs.Ytnaejfoighmfeaa.Rn
namespace Go.Proofs.Ytnaejfoighmfeaa
open Go.ChangeShapes Go.WideShapes Go.ChangeAt Go.RowKit Go.Deep
set_option maxRecDepth 100000
set_option linter.unusedVariables false
instance:Inhabited Nd:=⟨nNil⟩
section
variable {H:Type} {enc:TypeId × Value→H} {W:World} {sp:Nat→Bool} {held:Bool}
end
set_option linter.unusedSimpArgs false
def StrsR (w:World) (a:Option Addr) (l:List ByteArray):Prop:=∀ j,j<l.length→∃ b off,a=some ⟨b,off,none⟩∧b<w.heap.size∧w.cell? ⟨b,off+j,none⟩=some (.string (sAt l j))
theorem StrsR.few {w:World} {a:Option Addr} {l:List ByteArray} (h:StrsR w a l) (hl:l.length≤1000):StrsIn w a l:=⟨hl,h⟩
section
variable {H:Type} {enc:TypeId × Value→H} {W:World} {sp:Nat→Bool} {held:Bool}
instance:Inhabited Wo:=⟨woNil⟩
end
end Go.Proofs.Ytnaejfoighmfeaa
namespace Go.Proofs.Ytnaejfoighmfeaa.Rn
open Go.ChangeShapes Go.WideShapes Go.ChangeAt Go.RowKit
set_option maxRecDepth 100000
set_option linter.unusedVariables false
set_option linter.unusedSimpArgs false
theorem sign_at {g:Gr} (hg:g=aplG∨g=jG∨g=kG):0<g.verbs.length∧∀ j,j<g.verbs.length→(inL g.verbs (sAt g.verbs j)=true∧((sAt g.verbs j).toList==[])=false)∧(sAt g.verbs j).size≤140737488355328:=by
 have h:∀ g:Gr,(List.range g.verbs.length).all (fun j=>inL g.verbs (sAt g.verbs j)&&(!((sAt g.verbs j).toList==[])&&decide ((sAt g.verbs j).size≤4)))=true→∀ j,j<g.verbs.length→(inL g.verbs (sAt g.verbs j)=true∧((sAt g.verbs j).toList==[])=false)∧(sAt g.verbs j).size≤140737488355328:=fun g h j hj=>by
  have:=List.all_eq_true.1 h j (List.mem_range.2 hj)
  simp only [Bool.and_eq_true,Bool.not_eq_true',decide_eq_true_eq] at this
  exact ⟨⟨this.1,this.2.1⟩,by omega⟩
 rcases hg with rfl|rfl|rfl
 ·exact ⟨by decide,h _ (by kernel_rfl)⟩
 ·exact ⟨by decide,h _ (by kernel_rfl)⟩
 ·exact ⟨by decide,h _ (by kernel_rfl)⟩
theorem sign_is {g:Gr} {j:Nat} (h:inL g.verbs (sAt g.verbs j)=true∧((sAt g.verbs j).toList==[])=false) (l:Ar) (p:Int) (r:List Wo):signT g.verbs (⟨4,sAt g.verbs j,l,p⟩::r)=true:=by
 simp only [signT,isT,h.1,h.2,decide_true,Bool.true_and,Bool.and_true,BEq.rfl,Bool.not_false]
theorem right_open {m n:Nat} {w:World} {x:Nd} {t:ByteArray} {p:Int} {v:Value} (h:NdIn m n 0 w (mo1 (node 21 0 t [] p) x) v) :
  ∃ b off c1 c2 z1 z2 ck e1 e2 d1 d2 dk ek,v=.agg #[.int .i64 5,.int .i64 0,.string nost,.slice z1 0 c1,.slice z2 0 c2,.slice (some ⟨b,off,none⟩) 2 ck,.int .i64 p]∧b<w.heap.size∧∀ W,Below w.heap.size w W →
   W.cell? ⟨b,off,none⟩=some (.int .i64 21)∧W.cell? ⟨b,off+2,none⟩=some (.string t)∧Seven W b (off+7) x d1 e1 d2 e2 dk ek∧NdIn m n 0 W x (ndV x d1 e1 d2 e2 dk ek):=by
 cases m with
|zero=>exact h.elim
|succ m =>
  obtain ⟨a1,c1,a2,c2,ak,ck,hv,hA,hlen,hs,hc⟩:=h
  rcases hc with hc|⟨b,off,ha,hlo,hb,hc⟩
  ·cases hc
  ·subst ha
   obtain ⟨d1,e1,d2,e2,dk,ek,s7,-⟩:=hc 0 (by show 0<2;decide)
   obtain ⟨f1,g1,f2,g2,fk,gk,t7,hk⟩:=hc 1 (by show 1<2;decide)
   refine ⟨b,off,c1,c2,a1,a2,ck,g1,g2,f1,f2,fk,gk,hv,hb,fun W hW=>?_⟩
   obtain ⟨q0,-,q2,-⟩:=s7.next hW hb
   have q7:Seven W b (off+1*7) x f1 g1 f2 g2 fk gk:=t7.next hW hb
   have p0:W.cell? ⟨b,off+0*7,none⟩=some (.int .i64 21):=q0
   have p2:W.cell? ⟨b,off+0*7+2,none⟩=some (.string t):=q2
   refine ⟨?_,?_,?_,(hk.next hW).deeper⟩
   ·simpa using p0
   ·simpa using p2
   ·simpa using q7
theorem bounds_u8 {n:Int} (h:(Lit.int .u8 n).wf=true):0≤n∧n≤255:=by
 simp only [Lit.wf,Bool.and_eq_true,decide_eq_true_eq] at h
 exact h
end Go.Proofs.Ytnaejfoighmfeaa.Rn
