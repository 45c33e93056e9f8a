/-
  The contracts of layer 6's beside and fitted: the shapes in which two arrays stand to be joined.
  The contracts of layer 6's inTurn (a part of the one and a part of the other in turn) and cellsIn.
  The contract of layer 6's cellsIn: an array's cells in the shape in which it stands.
  Two arrays joined, as plain data: shapes and cells. Mathematics.
  What layer 6's joined leans on: two boxes written, cells in turn as an array's.
  The contract of layer 6's joined.
  Layer 6's pieces and Dy for CatF and CatL, for numbers that name no function, and Dy for whatever function.
  What is taken and what is left, joined, are the array. Mathematics.
-/
import Derived.Test.YtmjncdhahdpplaaM8
import Derived.Test.YtmjncdhahdpplaaM6
import Derived.Test.YtmjncdhahdpplaaM7
namespace Go.Proofs.Ytmjncdhahdpplaa
open Go.ChangeShapes Go.WideShapes Go.ChangeAt Go.RowKit
set_option linter.unusedVariables false
set_option maxRecDepth 100000
def besR (s o : List Int) (k : Nat) : List Int × Int :=
  if o.length ≤ s.length then (s, 0) else if s.length = 0 then (o.set k 1, 0) else if o.length = s.length + 1 then (s.take k ++ 1 :: s.drop k, 0) else ([], 6)
def BesIs (s o : List Int) (k : Nat) (w : World) (e : Ending) (w' : World) : Prop := (∃ a n c, e = .returned (.tuple #[.slice a n c, .int .i64 (besR s o k).2]) ∧ n = (besR s o k).1.length ∧ Row 0 w' a (besR s o k).1) ∧ Below w.heap.size w w'
theorem besIs_of {s o l : List Int} {k n c : Nat} {E : Int} {a : Option Addr} {w w' : World} (h : besR s o k = (l, E)) (hn : n = l.length) (R : Row 0 w' a l) (hb : Below w.heap.size w w') : BesIs s o k w (.returned (.tuple #[.slice a n c, .int .i64 E])) w' := by
  unfold BesIs; rw [h]; exact ⟨⟨_, _, _, rfl, hn, R⟩, hb⟩
set_option maxHeartbeats 4000000 in
theorem beside_any {lo lo' : Nat} (s o : List Int) (a b : Option Addr) (c d k : Nat) (w : World) (R : Row lo w a s) (R' : Row lo' w b o) (hs : s.length ≤ 8) (ho : o.length ≤ 8) (hk : s.length < o.length → k = 0 ∨ k + 1 = o.length) :
    Calls Try.prog 108 #[.slice a s.length c, .slice b o.length d, .int .i64 (k : Int)] w fun e w' => BesIs s o k w e w' := by
  have HR := hide (And.intro R R')
  have HB : Hid (besR s o k = if o.length ≤ s.length then (s, 0) else if s.length = 0 then (o.set k 1, 0) else if o.length = s.length + 1 then (s.take k ++ 1 :: s.drop k, 0) else ([], 6)) := rfl
  obtain ⟨SS, hSS⟩ : ∃ z, s.length = z := ⟨_, rfl⟩
  obtain ⟨SO, hSO⟩ : ∃ z, o.length = z := ⟨_, rfl⟩
  have HL := hide (And.intro hSS hSO)
  rw [hSS, hSO] at HB hk
  rw [hSS] at hs ⊢
  rw [hSO] at ho ⊢
  clear R R' hSS hSO
  by_cases h1 : SO ≤ SS
  · have HF : Hid (BesIs s o k w (.returned (.tuple #[.slice a SS c, .int .i64 0])) w) := besIs_of (l := s) (by rw [HB.out, if_pos h1]) HL.out.1.symm (HR.out.1.low (Nat.zero_le _)) (Below.refl _ _)
    have hd : (SO : Int) - (SS : Int) ≤ 0 := by omega
    clear HB HR hk
    go_enter Try.func108, Try.ntmps108
    go_wp2
    exact bodyPost_ret (v := .tuple #[.slice a SS c, .int .i64 0]) (by simp [results, Try.results108, go_sem]) rfl HF.out
  have hd : ¬ (SO : Int) - (SS : Int) ≤ 0 := by omega
  have hkk := hk (by omega)
  by_cases h2 : SS = 0
  · have hb2 : ((SS : Int) == 0) = true := by simp [h2]
    have C := clone_any o b d w HR.out.2 (by rw [HL.out.2]; omega)
    rw [HL.out.2] at C
    have HE : Hid (besR s o k = (o.set k 1, 0)) := by unfold Hid; rw [HB.out, if_neg h1, if_pos h2]
    have hko : k < SO := by omega
    clear HB hk h2
    go_enter Try.func108, Try.ntmps108
    go_wp2_with fail
    refine C.mono ?_
    clear C
    rintro e w1 ⟨⟨a', cap', rfl, hO⟩, hb1⟩
    obtain ⟨g, rfl, hg1, hg2, SC⟩ := hO.2.1 (by rw [HL.out.2]; omega)
    obtain ⟨u0, u1⟩ := SC k (by rw [HL.out.2]; exact hko)
    have SC2 := SC.set k (by rw [HL.out.2]; exact hko) 1
    obtain ⟨w2, e2⟩ : ∃ w2, w1.setCell ⟨g, k, none⟩ (.int .i64 1) = w2 := ⟨_, rfl⟩
    rw [e2] at SC2
    have hs2 : w2.heap.size = w1.heap.size := by rw [← e2]; simp
    have hle : (o.set k 1).length = SO := by rw [List.length_set, HL.out.2]
    have HF : Hid (BesIs s o k w (.returned (.tuple #[.slice (some ⟨g, 0, none⟩) SO cap', .int .i64 0])) w2) := besIs_of HE.out hle.symm (SC2.row (by omega) (Nat.zero_le _) (by rw [hle]; omega)) (by rw [← e2]; exact hb1.setCell (p := ⟨g, k, none⟩) hg1 _)
    generalize gI o k = z0 at *
    clear hO SC SC2 hg1 hg2 hs2 hle hb1 HR HE
    go_wp2
    exact bodyPost_ret (v := .tuple #[.slice (some ⟨g, 0, none⟩) SO cap', .int .i64 0]) (by simp [results, Try.results108, go_sem]) rfl HF.out
  have hb2 : ((SS : Int) == 0) = false := by simp; omega
  by_cases h3 : SO = SS + 1
  · have hd1 : (SO : Int) - (SS : Int) = 1 := by omega
    have HE : Hid (besR s o k = (s.take k ++ 1 :: s.drop k, 0)) := by unfold Hid; rw [HB.out, if_neg h1, if_neg h2, if_pos h3]
    obtain ⟨pb, po, rfl, -, -⟩ := row_at HR.out.1 (j := 0) (by rw [HL.out.1]; omega)
    have C := clone_own s ⟨pb, po, none⟩ c w HR.out.1 (by rw [HL.out.1]; omega)
    rw [HL.out.1] at C
    clear HB hk
    go_enter Try.func108, Try.ntmps108
    go_wp2_with fail
    refine C.mono ?_
    clear C
    rintro e w1 ⟨⟨v, rfl, hown⟩, hb1⟩
    have hown' := hown
    obtain ⟨g, cp, rfl, hg1, hg2⟩ := owns_form1' hown (by omega)
    have own2 := hown.alloc (.cells #[.int .i64 1] 3)
    obtain ⟨W2, e2⟩ : ∃ W2, w1.alloc (.cells #[.int .i64 1] 3) = W2 := ⟨_, rfl⟩
    have hVh : W2.heap[w1.heap.size]? = some (.cells #[.int .i64 1] 3) := by rw [← e2]; exact Array.getElem?_push_size
    rw [e2] at own2
    have hs2 : W2.heap.size = w1.heap.size + 1 := by rw [← e2]; simp
    have hbW : Below w.heap.size w W2 := by rw [← e2]; exact hb1.alloc hb1.size _
    have CI : Calls Try.prog 66 #[.slice (some ⟨g, 0, none⟩) SS cp, .int .i64 (k : Int), .slice (some ⟨w1.heap.size, 0, none⟩) 1 1] W2 fun e w' => (∃ a' cap', e = .returned (.slice a' (SS + 1) cap') ∧ Row w.heap.size w' a' (s.take k ++ 1 :: s.drop k)) ∧ Below w.heap.size W2 w' := by
      rcases hkk with rfl | hkl
      · have := insert0_own (base := w.heap.size) s g cp w1.heap.size W2 (by rw [HL.out.1]; exact own2) (by rw [HL.out.1]; omega) (by rw [HL.out.1]; exact hs) hVh (by omega) (by omega)
        rw [HL.out.1] at this
        exact this
      · have hk' : k = SS := by omega
        subst hk'
        have := insertE_own (base := w.heap.size) s (some ⟨g, 0, none⟩) cp w1.heap.size W2 (by rw [HL.out.1]; exact own2) (by rw [HL.out.1]; exact hs) (cell_of_heap hVh rfl) (by omega) (by omega)
        rw [HL.out.1] at this
        have e : s.take k ++ 1 :: s.drop k = s ++ [1] := by
          rw [← HL.out.1, List.take_length, List.drop_length]
        rw [e]
        exact this
    have HLE : Hid ((s.take k ++ 1 :: s.drop k).length = SS + 1) := by
      have := congrArg List.length (List.take_append_drop k s)
      rw [List.length_append] at this
      unfold Hid
      rw [List.length_append, List.length_cons, ← HL.out.1]; omega
    have HBW := hide hbW
    clear hown hown' own2 hVh hbW hb1 hg1 hg2 HR hs2
    go_wp2_with fail
    clear e2
    refine CI.mono ?_
    clear CI
    rintro e w3 ⟨⟨a', cap', rfl, RR⟩, hb3⟩
    have HF : Hid (BesIs s o k w (.returned (.tuple #[.slice a' (SS + 1) cap', .int .i64 0])) w3) := besIs_of HE.out HLE.out.symm (RR.low (Nat.zero_le _)) (HBW.out.trans hb3)
    clear RR hb3 HE HLE HBW
    go_wp2
    exact bodyPost_ret (v := .tuple #[.slice a' (SS + 1) cap', .int .i64 0]) (by simp [results, Try.results108, go_sem]) rfl HF.out
  · have hd1 : ¬ (SO : Int) - (SS : Int) = 1 := by omega
    have HF : Hid (BesIs s o k w (.returned (.tuple #[.slice none 0 0, .int .i64 6])) w) := besIs_of (l := []) (by rw [HB.out, if_neg h1, if_neg h2, if_neg h3]) rfl (row_nil _ _ _) (Below.refl _ _)
    clear HB HR hk
    go_enter Try.func108, Try.ntmps108
    go_wp2
    exact bodyPost_ret (v := .tuple #[.slice none 0 0, .int .i64 6]) (by simp [results, Try.results108, go_sem]) rfl HF.out
theorem bes_len {s o : List Int} {k : Nat} (h : (besR s o k).2 = 0) : (besR s o k).1.length = max s.length o.length := by
  unfold besR at h ⊢
  by_cases h1 : o.length ≤ s.length
  · rw [if_pos h1]; show s.length = _; omega
  rw [if_neg h1] at h ⊢
  by_cases h2 : s.length = 0
  · rw [if_pos h2]; show (o.set k 1).length = _; rw [List.length_set]; omega
  rw [if_neg h2] at h ⊢
  by_cases h3 : o.length = s.length + 1
  · rw [if_pos h3]
    show (s.take k ++ 1 :: s.drop k).length = _
    have := congrArg List.length (List.take_append_drop k s)
    rw [List.length_append] at this
    rw [List.length_append, List.length_cons]; omega
  · rw [if_neg h3] at h; exact absurd h (by decide)
def fitF (A B : List Int) (k i : Nat) : Int := if ¬ i = k ∧ ¬ gI A i = gI B i then 7 else 0
def fitR (s o : List Int) (k : Nat) : List Int × List Int × Int :=
  if ¬ (besR s o k).2 = 0 then ([], [], (besR s o k).2) else if ¬ (besR o s k).2 = 0 then ([], [], (besR o s k).2) else
  if ¬ firstUp (fitF (besR s o k).1 (besR o s k).1 k) (besR s o k).1.length = 0 then ([], [], 7) else ((besR s o k).1, (besR o s k).1, 0)
def FitIs (s o : List Int) (k : Nat) (w : World) (e : Ending) (w' : World) : Prop := (∃ a n c a2 n2 c2, e = .returned (.tuple #[.slice a n c, .slice a2 n2 c2, .int .i64 (fitR s o k).2.2]) ∧ n = (fitR s o k).1.length ∧ Row 0 w' a (fitR s o k).1 ∧ n2 = (fitR s o k).2.1.length ∧ Row 0 w' a2 (fitR s o k).2.1) ∧ Below w.heap.size w w'
theorem fitIs_of {s o l l2 : List Int} {k n c n2 c2 : Nat} {E : Int} {a a2 : Option Addr} {w w' : World} (h : fitR s o k = (l, l2, E)) (hn : n = l.length) (R : Row 0 w' a l) (hn2 : n2 = l2.length) (R2 : Row 0 w' a2 l2) (hb : Below w.heap.size w w') : FitIs s o k w (.returned (.tuple #[.slice a n c, .slice a2 n2 c2, .int .i64 E])) w' := by
  unfold FitIs; rw [h]; exact ⟨⟨_, _, _, _, _, _, rfl, hn, R, hn2, R2⟩, hb⟩
set_option maxHeartbeats 4000000 in
theorem fitted_any {lo lo' : Nat} (s o : List Int) (a b : Option Addr) (c d k : Nat) (w : World) (R : Row lo w a s) (R' : Row lo' w b o) (hs : s.length ≤ 8) (ho : o.length ≤ 8) (hk1 : s.length < o.length → k = 0 ∨ k + 1 = o.length) (hk2 : o.length < s.length → k = 0 ∨ k + 1 = s.length) :
    Calls Try.prog 99 #[.slice a s.length c, .slice b o.length d, .int .i64 (k : Int)] w fun e w' => FitIs s o k w e w' := by
  have C1 := beside_any s o a b c d k w R R' hs ho hk1
  have HC2 : Hid (∀ W, Below w.heap.size w W → _) := fun W (h : Below w.heap.size w W) => beside_any o s b a d c k W (R'.next h) (R.next h) ho hs hk2
  have HL1 := hide (bes_len (s := s) (o := o) (k := k))
  have HL2 := hide (bes_len (s := o) (o := s) (k := k))
  have HF : Hid (fitR s o k = if ¬ (besR s o k).2 = 0 then ([], [], (besR s o k).2) else if ¬ (besR o s k).2 = 0 then ([], [], (besR o s k).2) else if ¬ firstUp (fitF (besR s o k).1 (besR o s k).1 k) (besR s o k).1.length = 0 then ([], [], 7) else ((besR s o k).1, (besR o s k).1, 0)) := rfl
  unfold BesIs at C1 HC2
  obtain ⟨⟨A, EA⟩, hA⟩ : ∃ p, besR s o k = p := ⟨_, rfl⟩
  obtain ⟨⟨B, EB⟩, hB⟩ : ∃ p, besR o s k = p := ⟨_, rfl⟩
  rw [hA] at C1 HL1 HF
  rw [hB] at HC2 HL2 HF
  simp only at C1 HC2 HL1 HL2 HF
  have HM : Hid (EA = 0 → EB = 0 → B.length = A.length ∧ A.length ≤ 8) := fun h1 h2 => by
    have a1 := HL1.out h1
    have a2 := HL2.out h2
    omega
  clear R R' hA hB HL1 HL2 hk1 hk2
  generalize s.length = SS at *
  generalize o.length = SO at *
  go_enter Try.func99, Try.ntmps99
  go_wp2_with fail
  refine C1.mono ?_
  clear C1
  rintro e w1 ⟨⟨a1, n1, c1, rfl, hn1, R1⟩, hb1⟩
  by_cases h1 : EA = 0
  case neg =>
    have hne : (EA == 0) = false := beq_eq_false_iff_ne.2 h1
    have HG : Hid (FitIs s o k w (.returned (.tuple #[.slice none 0 0, .slice none 0 0, .int .i64 EA])) w1) := fitIs_of (by rw [HF.out, if_pos h1]) rfl (row_nil _ _ _) rfl (row_nil _ _ _) hb1
    clear R1 hb1 HF HC2 hn1
    go_wp2
    exact bodyPost_ret (v := .tuple #[.slice none 0 0, .slice none 0 0, .int .i64 EA]) (by simp [results, Try.results99, go_sem]) rfl HG.out
  subst h1
  have C2 := HC2.out w1 hb1
  have H1 := hide (And.intro R1 (And.intro hb1 hn1))
  clear R1 hb1 hn1 HC2
  go_wp2_with fail
  refine C2.mono ?_
  clear C2
  rintro e w2 ⟨⟨a2, n2, c2, rfl, hn2, R2⟩, hb2⟩
  have hbW := H1.out.2.1.trans (hb2.mono H1.out.2.1.size)
  by_cases h2 : EB = 0
  case neg =>
    have hne : (EB == 0) = false := beq_eq_false_iff_ne.2 h2
    have HG : Hid (FitIs s o k w (.returned (.tuple #[.slice none 0 0, .slice none 0 0, .int .i64 EB])) w2) := fitIs_of (by rw [HF.out, if_neg (by simp), if_pos h2]) rfl (row_nil _ _ _) rfl (row_nil _ _ _) hbW
    clear R2 hb2 HF hn2 H1 hbW
    go_wp2
    exact bodyPost_ret (v := .tuple #[.slice none 0 0, .slice none 0 0, .int .i64 EB]) (by simp [results, Try.results99, go_sem]) rfl HG.out
  subst h2
  have hlen := HM.out (by first | rfl | trivial) (by first | rfl | trivial)
  have hn1 := H1.out.2.2
  have hn21 : n2 = n1 := by omega
  subst hn21
  have h8 : n2 ≤ 8 := by omega
  have H2 := hide (And.intro (H1.out.1.next hb2) (And.intro R2 (And.intro hbW (And.intro hn1 hn2))))
  have HF2 : Hid (fitR s o k = if ¬ firstUp (fitF A B k) n2 = 0 then ([], [], 7) else (A, B, 0)) := by unfold Hid; rw [HF.out, if_neg (by simp), if_neg (by simp), ← hn1]
  clear R2 hb2 HF hn2 H1 hbW hlen hn1 HM
  go_wp2
  go_loopg [35] n2 (fun g i wr => ∃ j : Nat, g + j = n2 ∧ i = .int .i64 (j : Int) ∧ firstUp (fitF A B k) j = 0 ∧ Below w2.heap.size w2 wr)
  case atStart => exact ⟨0, rfl, rfl, rfl, Below.refl _ _⟩
  case round =>
    obtain ⟨j, hgj, rfl, hfu, hBr⟩ := hrel
    by_cases hlt : j < n2
    · obtain ⟨b1', o1, rfl, hb1', hc1⟩ := row_at H2.out.1 (j := j) (by rw [← H2.out.2.2.2.1]; exact hlt)
      obtain ⟨b2', o2, rfl, hb2', hc2⟩ := row_at H2.out.2.1 (j := j) (by rw [← H2.out.2.2.2.2]; exact hlt)
      have u1 := (hBr.cell (p := ⟨b1', o1 + j, none⟩) hb1').trans hc1
      have u2 := (hBr.cell (p := ⟨b2', o2 + j, none⟩) hb2').trans hc2
      have HLF : Hid (fitF A B k j = if ¬ j = k ∧ ¬ A[j]?.getD 0 = B[j]?.getD 0 then 7 else 0) := rfl
      generalize A[j]?.getD 0 = x1 at *
      generalize B[j]?.getD 0 = x2 at *
      have HBr := hide hBr
      by_cases hjk : j = k
      · have hb : ((j : Int) != (k : Int)) = false := by rw [hjk]; simp
        have HS : Hid (firstUp (fitF A B k) (j + 1) = 0) := by unfold Hid; rw [firstUp_step hfu, HLF.out, if_neg (fun h => h.1 hjk)]
        clear hc1 hc2 hBr hjk HLF
        go_wp2
        go_quiet (fail)
        go_wp2
        go_roundg (n2 - (j + 1))
        case rel => exact ⟨j + 1, by omega, by go_num, HS.out, HBr.out.trans ⟨rfl, rfl, rfl, Nat.le_refl _, fun _ _ => rfl⟩⟩
        case measure => omega
      · have hb : ((j : Int) != (k : Int)) = true := by simp; omega
        by_cases hxx : x1 = x2
        · subst hxx
          have hb3 : (x1 != x1) = false := by simp
          have HS : Hid (firstUp (fitF A B k) (j + 1) = 0) := by unfold Hid; rw [firstUp_step hfu, HLF.out, if_neg (fun h => h.2 rfl)]
          clear hc1 hc2 hBr hjk HLF
          go_wp2
          go_quiet (fail)
          go_wp2
          go_roundg (n2 - (j + 1))
          case rel => exact ⟨j + 1, by omega, by go_num, HS.out, HBr.out.trans ⟨rfl, rfl, rfl, Nat.le_refl _, fun _ _ => rfl⟩⟩
          case measure => omega
        · have hb3 : (x1 != x2) = true := by simpa using hxx
          have h7 : fitF A B k j = 7 := by rw [HLF.out]; exact if_pos ⟨hjk, hxx⟩
          have HE7 : Hid (fitR s o k = ([], [], 7)) := by unfold Hid; rw [HF2.out, firstUp_hit hfu (by rw [h7]; decide) n2 hlt, h7]; exact if_pos (by decide)
          have HG : Hid (∀ q : Nat, FitIs s o k w (.returned (.tuple #[.slice none 0 0, .slice none 0 0, .int .i64 7])) (wr.drewN q)) := fun q => fitIs_of HE7.out rfl (row_nil _ _ _) rfl (row_nil _ _ _) (H2.out.2.2.1.trans ((hBr.trans (c := wr.drewN q) ⟨rfl, rfl, rfl, Nat.le_refl _, fun _ _ => rfl⟩).mono H2.out.2.2.1.size))
          clear h7
          clear hc1 hc2 hBr hjk HLF hxx
          go_wp2
          go_quiet (fail)
          go_wp2
          exact bodyPost_ret (v := .tuple #[.slice none 0 0, .slice none 0 0, .int .i64 7]) (by simp [results, Try.results99, go_sem]) rfl (HG.out _)
    · have hje : j = n2 := by omega
      subst hje
      have HG : Hid (FitIs s o k w (.returned (.tuple #[.slice a1 j c1, .slice a2 j c2, .int .i64 0])) wr) := fitIs_of (by rw [HF2.out, hfu, if_neg (by simp)]) H2.out.2.2.2.1 (H2.out.1.next hBr) H2.out.2.2.2.2 (H2.out.2.1.next hBr) (H2.out.2.2.1.trans (hBr.mono H2.out.2.2.1.size))
      clear hBr HF2 hfu
      go_wp2
      exact bodyPost_ret (v := .tuple #[.slice a1 j c1, .slice a2 j c2, .int .i64 0]) (by simp [results, Try.results99, go_sem]) rfl HG.out
end Go.Proofs.Ytmjncdhahdpplaa
namespace Go.Proofs.Ytmjncdhahdpplaa
open Go.ChangeShapes Go.WideShapes Go.ChangeAt Go.RowKit
set_option linter.unusedVariables false
set_option maxRecDepth 100000
/-- A slice of cells, by the three values of each. -/
structure SrcT (w : World) (a : Option Addr) (n c : Nat) (T : Nat → Value × Value × Value) : Prop where
  cap : n ≤ c
  one : ∀ i, (T i).1.oneCell' = true ∧ (T i).2.1.oneCell' = true ∧ (T i).2.2.oneCell' = true
  lies : 0 < n → ∃ b off, a = some ⟨b, off, none⟩ ∧ b < w.heap.size ∧ ∀ i, i < n → w.cell? ⟨b, off + i * 3, none⟩ = some (T i).1 ∧ w.cell? ⟨b, off + i * 3 + 1, none⟩ = some (T i).2.1 ∧ w.cell? ⟨b, off + i * 3 + 2, none⟩ = some (T i).2.2
theorem SrcT.next {w w' : World} {a : Option Addr} {n c : Nat} {T : Nat → Value × Value × Value} (h : SrcT w a n c T) (hb : Below w.heap.size w w') : SrcT w' a n c T := by
  refine ⟨h.cap, h.one, fun h0 => ?_⟩
  obtain ⟨b, off, ha, hl, hc⟩ := h.lies h0
  refine ⟨b, off, ha, Nat.lt_of_lt_of_le hl hb.size, fun i hi => ?_⟩
  obtain ⟨c0, c1, c2⟩ := hc i hi
  exact ⟨(hb.cell (p := ⟨b, off + i * 3, none⟩) hl).trans c0, (hb.cell (p := ⟨b, off + i * 3 + 1, none⟩) hl).trans c1, (hb.cell (p := ⟨b, off + i * 3 + 2, none⟩) hl).trans c2⟩
theorem SrcT.part {w : World} {a : Option Addr} {n c : Nat} {T : Nat → Value × Value × Value} (h : SrcT w a n c T) (fr m : Nat) (hm : fr + m ≤ n) : Lies w (subA a fr c 3) (rowT (fun q => T (fr + q)) m) := by
  refine ⟨?_, rowT_one _ _ fun i _ => h.one _⟩
  by_cases h0 : m = 0
  · left; subst h0; rfl
  obtain ⟨b, off, rfl, hl, hc⟩ := h.lies (by omega)
  refine Or.inr ⟨⟨b, off + fr * 3, none⟩, ?_, hl, fun j u hj => ?_⟩
  · have := h.cap
    unfold subA; rw [if_neg (by omega)]; simp [Addr.add]
  · have hjl : j < m * 3 := by
      rcases Nat.lt_or_ge j (m * 3) with h | h
      · exact h
      · rw [List.getElem?_eq_none (by rw [rowT_len]; exact h)] at hj; cases hj
    obtain ⟨t0, t1, t2⟩ := rowT_at (fun q => T (fr + q)) m (j / 3) (by omega)
    obtain ⟨g0, g1, g2⟩ := hc (fr + j / 3) (by omega)
    rw [add_off]
    have hm : j = j / 3 * 3 ∨ j = j / 3 * 3 + 1 ∨ j = j / 3 * 3 + 2 := by omega
    rcases hm with e | e | e
    · rw [← e] at t0; rw [t0] at hj; cases hj
      rw [show off + fr * 3 + j = off + (fr + j / 3) * 3 by omega]; exact g0
    · rw [← e] at t1; rw [t1] at hj; cases hj
      rw [show off + fr * 3 + j = off + (fr + j / 3) * 3 + 1 by omega]; exact g1
    · rw [← e] at t2; rw [t2] at hj; cases hj
      rw [show off + fr * 3 + j = off + (fr + j / 3) * 3 + 2 by omega]; exact g2
/-- From where a thing at a place comes. -/
def turnF {α : Type} (TA TB : Nat → α) (one two p : Nat) : α := if p % (one + two) < one then TA (p / (one + two) * one + p % (one + two)) else TB (p / (one + two) * two + (p % (one + two) - one))
theorem turnF_a {α : Type} (TA TB : Nat → α) (one two r q : Nat) (hq : q < one) : turnF TA TB one two (r * (one + two) + q) = TA (r * one + q) := by
  have h1 : (r * (one + two) + q) % (one + two) = q := by rw [Nat.mul_comm, Nat.mul_add_mod, Nat.mod_eq_of_lt (by omega)]
  have h2 : (r * (one + two) + q) / (one + two) = r := by rw [Nat.mul_comm, Nat.mul_add_div (by omega), Nat.div_eq_of_lt (by omega)]; omega
  unfold turnF; rw [h1, h2, if_pos hq]
theorem turnF_b {α : Type} (TA TB : Nat → α) (one two r q : Nat) (hq : q < two) : turnF TA TB one two (r * (one + two) + one + q) = TB (r * two + q) := by
  have h1 : (r * (one + two) + one + q) % (one + two) = one + q := by rw [Nat.add_assoc, Nat.mul_comm, Nat.mul_add_mod, Nat.mod_eq_of_lt (by omega)]
  have h2 : (r * (one + two) + one + q) / (one + two) = r := by rw [Nat.add_assoc, Nat.mul_comm, Nat.mul_add_div (by omega), Nat.div_eq_of_lt (by omega)]; omega
  unfold turnF; rw [h1, h2, if_neg (by omega), show one + q - one = q by omega]
set_option maxHeartbeats 1000000 in
theorem inTurn_any (a b : Option Addr) (nA cA nB cB t one two : Nat) (TA TB : Nat → Value × Value × Value) (w : World) (hA : SrcT w a nA cA TA) (hB : SrcT w b nB cB TB) (ht : 0 < t) (hnA : nA = t * one) (hnB : nB = t * two) (h16 : nA + nB ≤ 16384) (ht16 : t ≤ 16384) :
    Calls Try.prog 100 #[.slice a nA cA, .slice b nB cB, .int .i64 (t : Int)] w fun e w' => (∃ g, e = .returned (.slice (some ⟨g, 0, none⟩) (nA + nB) (nA + nB)) ∧ w.heap.size ≤ g ∧ g < w'.heap.size ∧ w'.rowIs g 36 ((nA + nB) * 3) (gF (turnF TA TB one two) (nA + nB))) ∧ Below w.heap.size w w' := by
  obtain ⟨N, hN⟩ : ∃ N, nA + nB = N := ⟨_, rfl⟩
  have mk := make_cells N (by omega) w
  obtain ⟨W4, e4⟩ : ∃ W4, w.alloc (.cells (madeCells #[.int .i64 0, .int .i64 0, .slice none 0 0] (N * 3)) 36) = W4 := ⟨_, rfl⟩
  rw [e4] at mk
  have B4 : Below w.heap.size w W4 := by rw [← e4]; exact one_alloc _ _
  have z4 : W4.heap.size = w.heap.size + 1 := by rw [← e4]; simp
  obtain ⟨T, hT⟩ : ∃ T, turnF TA TB one two = T := ⟨_, rfl⟩
  have RM : W4.rowIs w.heap.size 36 (N * 3) (gF T 0) := by rw [← e4]; exact (rowIs_made3 w (N * 3)).congr fun i hi => by rw [gF_zero]
  have HT := hide hT
  obtain ⟨M, hM⟩ : ∃ M, one + two = M := ⟨_, rfl⟩
  have hNM : N = t * M := by rw [← hN, hnA, hnB, ← hM, Nat.mul_add]
  have q1 : (nA : Int).tdiv (t : Int) = (one : Int) := by rw [hnA]; simp [Int.mul_tdiv_cancel_left _ (show (t : Int) ≠ 0 by omega)]
  have q2 : (nB : Int).tdiv (t : Int) = (two : Int) := by rw [hnB]; simp [Int.mul_tdiv_cancel_left _ (show (t : Int) ≠ 0 by omega)]
  have o16 : one ≤ 16384 := by
    have : 1 * one ≤ t * one := Nat.mul_le_mul_right _ ht
    omega
  have w16 : two ≤ 16384 := by
    have : 1 * two ≤ t * two := Nat.mul_le_mul_right _ ht
    omega
  have r1 : IntKind.i64.wrap (one : Int) = (one : Int) := by rw [IntKind.wrap_i64]; omega
  have r2 : IntKind.i64.wrap (two : Int) = (two : Int) := by rw [IntKind.wrap_i64]; omega
  have hs1 : (nA : Int) + (nB : Int) = (N : Int) := by omega
  have ht0 : ¬ (t : Int) = 0 := by omega
  have ht0' : ¬ t = 0 := by omega
  have HST := hide (And.intro RM B4)
  have HZ := hide z4
  have HAB := hide (And.intro hA hB)
  have HNN := hide (And.intro hnA (And.intro hnB (And.intro hNM (And.intro hM hN))))
  have hN16 : N ≤ 16384 := by omega
  have hAN : nA ≤ N := by omega
  have hBN : nB ≤ N := by omega
  rw [hN, hT]
  clear hN hT RM B4 z4 hA hB hnA hnB hNM hM h16
  go_enter Try.func100, Try.ntmps100
  go_wp2
  go_region
  all_goals
    go_wp2
    go_loopg [10, 27] t (fun g tv iv wr => ∃ r : Nat, g + r = t ∧ iv = .int .i64 (r : Int) ∧ tv = .int .i64 ((r * M : Nat) : Int) ∧ Two W4 w.heap.size w.heap.size wr ∧ wr.rowIs w.heap.size 36 (N * 3) (gF T (r * M)))
    case atStart => exact ⟨0, rfl, rfl, by simp, (Two.refl _ _ _).drew, by rw [Nat.zero_mul]; exact HST.out.1⟩
    case round =>
      obtain ⟨r, hgr, rfl, rfl, hTw, hrow⟩ := hrel
      obtain ⟨hnA, hnB, hNM, hM, hN⟩ := HNN.out
      have hzz := HZ.out
      by_cases hlt : r < t
      · obtain ⟨tz, htz⟩ : ∃ tz, r * M = tz := ⟨_, rfl⟩
        obtain ⟨f1, hf1⟩ : ∃ z, r * one = z := ⟨_, rfl⟩
        obtain ⟨g1, hg1⟩ : ∃ z, r * two = z := ⟨_, rfl⟩
        obtain ⟨f2, hf2⟩ : ∃ z, f1 + one = z := ⟨_, rfl⟩
        obtain ⟨g2, hg2⟩ : ∃ z, g1 + two = z := ⟨_, rfl⟩
        obtain ⟨t2, ht2⟩ : ∃ z, tz + one = z := ⟨_, rfl⟩
        obtain ⟨t3, ht3⟩ : ∃ z, t2 + two = z := ⟨_, rfl⟩
        have b1 : (r + 1) * one ≤ t * one := Nat.mul_le_mul_right _ hlt
        have b2 : (r + 1) * two ≤ t * two := Nat.mul_le_mul_right _ hlt
        have b3 : (r + 1) * M ≤ t * M := Nat.mul_le_mul_right _ hlt
        have e1 : (r + 1) * one = f2 := by rw [Nat.add_mul, Nat.one_mul, hf1, hf2]
        have e2 : (r + 1) * two = g2 := by rw [Nat.add_mul, Nat.one_mul, hg1, hg2]
        have e3 : (r + 1) * M = t3 := by rw [Nat.add_mul, Nat.one_mul, htz]; omega
        rw [e1, ← hnA] at b1
        rw [e2, ← hnB] at b2
        rw [e3, ← hNM] at b3
        have m1 : IntKind.i64.wrap ((r : Int) * (one : Int)) = (f1 : Int) := by rw [← Int.natCast_mul, hf1, IntKind.wrap_i64]; omega
        have m2 : IntKind.i64.wrap ((r : Int) + 1) = ((r + 1 : Nat) : Int) := by rw [show (r : Int) + 1 = ((r + 1 : Nat) : Int) by omega, IntKind.wrap_i64]; omega
        have m3 : IntKind.i64.wrap (((r + 1 : Nat) : Int) * (one : Int)) = (f2 : Int) := by rw [← Int.natCast_mul, e1, IntKind.wrap_i64]; omega
        have m4 : IntKind.i64.wrap ((r : Int) * (two : Int)) = (g1 : Int) := by rw [← Int.natCast_mul, hg1, IntKind.wrap_i64]; omega
        have m5 : IntKind.i64.wrap (((r + 1 : Nat) : Int) * (two : Int)) = (g2 : Int) := by rw [← Int.natCast_mul, e2, IntKind.wrap_i64]; omega
        have m6 : IntKind.i64.wrap ((tz : Int) + (one : Int)) = (t2 : Int) := by rw [show (tz : Int) + (one : Int) = (t2 : Int) by omega, IntKind.wrap_i64]; omega
        have m7 : IntKind.i64.wrap ((t2 : Int) + (two : Int)) = (t3 : Int) := by rw [show (t2 : Int) + (two : Int) = (t3 : Int) by omega, IntKind.wrap_i64]; omega
        obtain ⟨s1, hs⟩ : ∃ z, r + 1 = z := ⟨_, rfl⟩
        rw [hs] at m2 m3 m5
        have hW := hTw.belowB (B := w.heap.size) (Nat.le_refl _) (Nat.le_refl _)
        have hBw : Below w.heap.size w wr := HST.out.2.trans hW
        have hcA := HAB.out.1.cap
        have hcB := HAB.out.2.cap
        have hp1 : ∀ W, (Instr.sliceAt 23 (.slice (some ⟨w.heap.size, 0, none⟩) N N) (some (.int .i64 (tz : Int))) none none).run Try.prog W = .ok (.slice (subA (some ⟨w.heap.size, 0, none⟩) tz N 3) (N - tz) (N - tz)) W := fun W => part_l (P := Try.prog) Try.underlying23 size36 (some ⟨w.heap.size, 0, none⟩) N N tz (tz : Int) rfl (by omega) W
        have hp2 : ∀ W, (Instr.sliceAt 23 (.slice a nA cA) (some (.int .i64 (f1 : Int))) (some (.int .i64 (f2 : Int))) none).run Try.prog W = .ok (.slice (subA a f1 cA 3) one (cA - f1)) W := fun W => by
          rw [part_lh (P := Try.prog) Try.underlying23 size36 a nA cA f1 f2 (f1 : Int) (f2 : Int) rfl rfl (by omega) (by omega) W, show f2 - f1 = one by omega]
        have hp3 : ∀ W, (Instr.sliceAt 23 (.slice (some ⟨w.heap.size, 0, none⟩) N N) (some (.int .i64 (t2 : Int))) none none).run Try.prog W = .ok (.slice (subA (some ⟨w.heap.size, 0, none⟩) t2 N 3) (N - t2) (N - t2)) W := fun W => part_l (P := Try.prog) Try.underlying23 size36 (some ⟨w.heap.size, 0, none⟩) N N t2 (t2 : Int) rfl (by omega) W
        have hp4 : ∀ W, (Instr.sliceAt 23 (.slice b nB cB) (some (.int .i64 (g1 : Int))) (some (.int .i64 (g2 : Int))) none).run Try.prog W = .ok (.slice (subA b g1 cB 3) two (cB - g1)) W := fun W => by
          rw [part_lh (P := Try.prog) Try.underlying23 size36 b nB cB g1 g2 (g1 : Int) (g2 : Int) rfl rfl (by omega) (by omega) W, show g2 - g1 = two by omega]
        obtain ⟨d1, hd1⟩ : ∃ z, subA (some ⟨w.heap.size, 0, none⟩) tz N 3 = z := ⟨_, rfl⟩
        obtain ⟨d2, hd2⟩ : ∃ z, subA (some ⟨w.heap.size, 0, none⟩) t2 N 3 = z := ⟨_, rfl⟩
        have HD1 : Hid (0 < one → d1 = some ⟨w.heap.size, tz * 3, none⟩) := fun h => by rw [← hd1]; unfold subA; rw [if_neg (by omega), Option.map_some, add_off, Nat.zero_add]
        have HD2 : Hid (0 < two → d2 = some ⟨w.heap.size, t2 * 3, none⟩) := fun h => by rw [← hd2]; unfold subA; rw [if_neg (by omega), Option.map_some, add_off, Nat.zero_add]
        simp only [hd1] at hp1
        simp only [hd2] at hp3
        have HLA : Hid (∀ W, Below w.heap.size w W → Lies W (subA a f1 cA 3) (rowT (fun q => TA (f1 + q)) one)) := fun W h => (HAB.out.1.next h).part f1 one (by omega)
        have HLB : Hid (∀ W, Below w.heap.size w W → Lies W (subA b g1 cB 3) (rowT (fun q => TB (g1 + q)) two)) := fun W h => (HAB.out.2.next h).part g1 two (by omega)
        have HTA : Hid (rowT (fun q => TA (f1 + q)) one = rowT (fun q => T (tz + q)) one) := rowT_congr fun q hq => by
          rw [← HT.out, ← htz, ← hM, turnF_a TA TB one two r q hq, hf1]
        have HTB : Hid (rowT (fun q => TB (g1 + q)) two = rowT (fun q => T (t2 + q)) two) := rowT_congr fun q hq => by
          rw [← HT.out, ← ht2, ← htz, ← hM, turnF_b TA TB one two r q hq, hg1]
        obtain ⟨RA, hRA⟩ : ∃ z, rowT (fun q => TA (f1 + q)) one = z := ⟨_, rfl⟩
        obtain ⟨RB, hRB⟩ : ∃ z, rowT (fun q => TB (g1 + q)) two = z := ⟨_, rfl⟩
        have HMA : Hid (one = Nat.min one (N - tz) ∧ RA.length = one * 3 ∧ tz * 3 + RA.length ≤ N * 3) := by
          have : RA.length = one * 3 := by rw [← hRA]; exact rowT_len _ _
          exact ⟨(Nat.min_eq_left (by omega)).symm, this, by omega⟩
        have HMB : Hid (two = Nat.min two (N - t2) ∧ RB.length = two * 3 ∧ t2 * 3 + RB.length ≤ N * 3) := by
          have : RB.length = two * 3 := by rw [← hRB]; exact rowT_len _ _
          exact ⟨(Nat.min_eq_left (by omega)).symm, this, by omega⟩
        rw [hRA] at HLA HTA
        rw [hRB] at HLB HTB
        have HROW : Hid (wr.drew.rowIs w.heap.size 36 (N * 3) (gF T tz)) := by rw [← htz]; exact hrow
        have HTW := hide (And.intro hTw.drew hBw.drew)
        have HE := hide (And.intro hs e3)
        have HTT := hide (And.intro ht2 ht3)
        rw [htz]
        have htN : tz ≤ N := by omega
        have ht2N : t2 ≤ N := by omega
        have ht3N : t3 ≤ N := by omega
        have hf1N : f2 ≤ nA := b1
        have hg1N : g2 ≤ nB := b2
        clear hrow hTw hnA hnB hNM hM hN hzz htz hf1 hg1 hf2 hg2 ht2 ht3 b1 b2 b3 e1 e2 e3 hW hBw hd1 hd2 hRA hRB hs HST HZ HNN HAB HT
        go_wp2
        go_region_law (refine step_copy_rowIs rfl (.tmp 33) (.tmp 42) 23 23 rfl 36 3 Try.underlying23 size36 d1 (subA a f1 cA 3) (N - tz) (N - tz) one (cA - f1) one (by go_simp) (by go_simp) w.heap.size (tz * 3) (N * 3) 36 (gF T tz) HROW.out RA HMA.out.1 HMA.out.2.1 HD1.out (HLA.out _ HTW.out.2) (by decide) HMA.out.2.2 ?_; intro w9 hrow9 hTw9)
        all_goals
          have HN9 : Hid (Two W4 w.heap.size w.heap.size w9.drew ∧ w9.drew.rowIs w.heap.size 36 (N * 3) (gF T t2) ∧ Below w.heap.size w w9.drew) := by
            have hT9 : Two W4 w.heap.size w.heap.size w9 := ⟨HTW.out.1.io.trans hTw9.io, hTw9.size.trans HTW.out.1.size, fun b h1 h2 => (hTw9.keep b h1 h2).trans (HTW.out.1.keep b h1 h2)⟩
            refine ⟨hT9.drew, ?_, (HTW.out.2.trans (hTw9.belowB (Nat.le_refl _) (Nat.le_refl _))).drew⟩
            refine hrow9.congr fun i hi => ?_
            rw [HTA.out, ← HTT.out.1]
            exact spF_gF T tz one N i hi
          clear hrow9 hTw9 HROW HLA HMA HTW hp1 hp2 HD1 HTA
          go_wp2
          go_region_law (refine step_copy_rowIs rfl (.tmp 48) (.tmp 57) 23 23 rfl 36 3 Try.underlying23 size36 d2 (subA b g1 cB 3) (N - t2) (N - t2) two (cB - g1) two (by go_simp) (by go_simp) w.heap.size (t2 * 3) (N * 3) 36 (gF T t2) HN9.out.2.1 RB HMB.out.1 HMB.out.2.1 HD2.out (HLB.out _ HN9.out.2.2) (by decide) HMB.out.2.2 ?_; intro wA hrowA hTwA)
          all_goals
            have HNA : Hid (Two W4 w.heap.size w.heap.size wA ∧ wA.rowIs w.heap.size 36 (N * 3) (gF T ((r + 1) * M))) := by
              refine ⟨⟨HN9.out.1.io.trans hTwA.io, hTwA.size.trans HN9.out.1.size, fun b h1 h2 => (hTwA.keep b h1 h2).trans (HN9.out.1.keep b h1 h2)⟩, ?_⟩
              refine hrowA.congr fun i hi => ?_
              rw [HTB.out, HE.out.2, ← HTT.out.2]
              exact spF_gF T t2 two N i hi
            clear hrowA hTwA HN9 HLB HMB hp3 hp4 HD2 HTB
            go_wp2
            go_roundg (t - (r + 1))
            case rel => exact ⟨r + 1, by omega, by rw [HE.out.1], by rw [HE.out.2], HNA.out⟩
            case measure => omega
      · have hrt : r = t := by omega
        subst hrt
        rw [← hNM] at hrow
        have HF : Hid (w.heap.size ≤ w.heap.size ∧ w.heap.size < wr.heap.size ∧ wr.rowIs w.heap.size 36 (N * 3) (gF T N) ∧ Below w.heap.size w wr) := ⟨Nat.le_refl _, by rw [hTw.size]; omega, hrow, HST.out.2.trans (hTw.belowB (Nat.le_refl _) (Nat.le_refl _))⟩
        clear hrow hTw hnA hnB hNM hM hN hzz HST HAB HNN
        go_wp2
        go_ret
        exact ⟨⟨_, rfl, HF.out.1, HF.out.2.1, HF.out.2.2.1⟩, HF.out.2.2.2⟩
end Go.Proofs.Ytmjncdhahdpplaa
namespace Go.Proofs.Ytmjncdhahdpplaa
open Go.ChangeShapes Go.WideShapes Go.ChangeAt Go.RowKit
set_option linter.unusedVariables false
set_option maxRecDepth 100000
def cinL (S : Nat) (cs : List Ce) (N : Nat) : List Ce := if 0 < S then cs else List.replicate N (cAt cs 0)
/-- A slice of cells in a world, what they hold in an elder one. -/
def CinP (m lo : Nat) (w0 w : World) (cs : List Ce) (a : Option Addr) (n c : Nat) : Prop := n = cs.length ∧ ∃ T, SrcT w a n c T ∧ ∀ i, i < n → CeIn (ArIn m lo w0) lo w0 (cAt cs i) (T i).1 (T i).2.1 (T i).2.2
theorem CinP.next {m lo : Nat} {w0 w w' : World} {cs : List Ce} {a : Option Addr} {n c : Nat} (h : CinP m lo w0 w cs a n c) (hb : Below w.heap.size w w') : CinP m lo w0 w' cs a n c := by
  obtain ⟨h1, T, h2, h3⟩ := h
  exact ⟨h1, T, h2.next hb, h3⟩
theorem cinP_of {m lo c : Nat} {w0 w : World} {cs : List Ce} {a : Option Addr} (hc : CellsIn m lo w0 cs a) (hb : Below w0.heap.size w0 w) (hcap : cs.length ≤ c) : CinP m lo w0 w cs a cs.length c := by
  obtain ⟨ab, cb, hcf⟩ := cells_fn hc
  refine ⟨rfl, cellT cs ab cb, ⟨hcap, fun i => ⟨rfl, rfl, rfl⟩, fun h0 => ?_⟩, fun i hi => ?_⟩
  · obtain ⟨b, off, rfl, -, hl, hcells⟩ := hcf h0
    refine ⟨b, off, rfl, Nat.lt_of_lt_of_le hl hb.size, fun i hi => ?_⟩
    obtain ⟨g0, g1, g2, -⟩ := hcells i hi
    exact ⟨(hb.cell (p := ⟨b, off + i * 3, none⟩) hl).trans g0, (hb.cell (p := ⟨b, off + i * 3 + 1, none⟩) hl).trans g1, (hb.cell (p := ⟨b, off + i * 3 + 2, none⟩) hl).trans g2⟩
  · obtain ⟨b, off, rfl, -, hl, hcells⟩ := hcf (by omega)
    exact (hcells i hi).2.2.2
theorem replicate_at {N i : Nat} (x : Ce) (hi : i < N) : cAt (List.replicate N x) i = x := by simp [cAt, hi]
set_option maxHeartbeats 2000000 in
theorem cellsIn_any {m lo lo' : Nat} (S : Nat) (cs : List Ce) (sh : List Int) (s1 a2 ash : Option Addr) (k1 c2 csh N : Nat) {w0 w : World} (hc : CellsIn m lo w0 cs a2) (hb0 : Below w0.heap.size w0 w) (hcap : cs.length ≤ c2) (R : Row lo' w ash sh) (h1 : S = 0 → cs.length = 1) (hS8 : S ≤ 8) (hV : sizeV sh = (N : Int)) (hN : N ≤ 16384) :
    Calls Try.prog 101 #[.agg #[.slice s1 S k1, .slice a2 cs.length c2], .slice ash sh.length csh] w fun e w' => (∃ a n c, e = .returned (.slice a n c) ∧ CinP m lo w0 w' (cinL S cs N) a n c) ∧ Below w.heap.size w w' := by
  obtain ⟨W1, e1⟩ : ∃ W1, w.alloc (.cells #[.slice s1 S k1, .slice a2 cs.length c2] 25) = W1 := ⟨_, rfl⟩
  have B1 : Below w.heap.size w W1 := by rw [← e1]; exact one_alloc _ _
  have q0 : W1.cell? ⟨w.heap.size, 0, none⟩ = some (.slice s1 S k1) := by rw [← e1]; exact cell_new0 w _ 25 0 _ rfl
  have q1 : W1.cell? ⟨w.heap.size, 1, none⟩ = some (.slice a2 cs.length c2) := by rw [← e1]; exact cell_new0 w _ 25 1 _ rfl
  have HB := hide (And.intro hb0 B1)
  have HC := hide (And.intro hc hcap)
  by_cases hS : 0 < S
  · have HF : Hid (CinP m lo w0 W1 (cinL S cs N) a2 cs.length c2) := by
      have : cinL S cs N = cs := by unfold cinL; rw [if_pos hS]
      rw [this]
      exact cinP_of hc (hb0.trans (B1.mono hb0.size)) hcap
    clear hc hb0 hcap R h1 hV B1 HC
    generalize cs.length = CA at *
    generalize sh.length = SH at *
    go_enter Try.func101, Try.ntmps101
    go_wp2
    go_ret
    exact ⟨⟨_, _, _, rfl, HF.out⟩, HB.out.2⟩
  have hS0 : S = 0 := by omega
  have hcl := h1 hS0
  have CS := size_any sh ash csh W1 (R.next B1)
  rw [hV] at CS
  obtain ⟨ab, cb, hcf⟩ := cells_fn hc
  obtain ⟨b, off, rfl, -, hl, hcells⟩ := hcf (by omega)
  obtain ⟨g0, g1, g2, hce⟩ := hcells 0 (by omega)
  have HCE := hide hce
  have HEL : Hid (cinL S cs N = List.replicate N (cAt cs 0)) := by unfold Hid cinL; rw [if_neg hS]
  rw [hcl] at q1 e1 ⊢
  have hNB := hb0.trans (B1.mono hb0.size)
  have HLI : Hid (Lies W1 (some ⟨b, off, none⟩) [.int .i64 (cAt cs 0).1, .int .i64 (cAt cs 0).2.1, .slice (ab 0) (cAt cs 0).2.2.length (cb 0)]) := by
    refine ⟨Or.inr ⟨⟨b, off, none⟩, rfl, Nat.lt_of_lt_of_le hl hNB.size, fun j u hj => ?_⟩, fun u hu => ?_⟩
    · rw [add_off]
      match j, hj with
      | 0, hj => simp at hj; subst hj; have := (hNB.cell (p := ⟨b, off + 0 * 3, none⟩) hl).trans g0; simpa using this
      | 1, hj => simp at hj; subst hj; have := (hNB.cell (p := ⟨b, off + 0 * 3 + 1, none⟩) hl).trans g1; simpa using this
      | 2, hj => simp at hj; subst hj; have := (hNB.cell (p := ⟨b, off + 0 * 3 + 2, none⟩) hl).trans g2; simpa using this
      | j + 3, hj => simp at hj
    · simp at hu; rcases hu with rfl | rfl | rfl <;> rfl
  have CR := repeat_any (some ⟨b, off, none⟩) c2 N _ _ _ _ _ W1 HLI.out hN
  generalize hkk : (cAt cs 0).1 = kk at *
  generalize hNN : (cAt cs 0).2.1 = NN at *
  generalize hnb : (cAt cs 0).2.2.length = nb at *
  generalize sizeE sh = ES at CS
  have hSb : ¬ (0 : Int) < (S : Int) := by omega
  clear hc hb0 hcap R h1 hV B1 HC hcells hcf g0 g1 g2 hce hNB HLI hS hS0
  generalize sh.length = SH at *
  go_enter Try.func101, Try.ntmps101
  go_wp2_with fail
  refine CS.mono ?_
  clear CS
  rintro e w2 ⟨rfl, rfl⟩
  go_wp2_with fail
  clear e1 q0 q1
  refine CR.mono ?_
  clear CR
  rintro e w3 ⟨⟨g, rfl, hg1, hg2, hrow⟩, hb3⟩
  have HF : Hid (CinP m lo w0 w3 (cinL S cs N) (some ⟨g, 0, none⟩) N N) := by
    rw [HEL.out]
    refine ⟨by simp, fun _ => (.int .i64 kk, .int .i64 NN, .slice (ab 0) nb (cb 0)), ⟨Nat.le_refl _, fun i => ⟨rfl, rfl, rfl⟩, fun h0 => ⟨g, 0, rfl, hg2, fun i hi => ?_⟩⟩, fun i hi => ?_⟩
    · obtain ⟨s0, s1, s2⟩ := gF_at (fun _ => ((.int .i64 kk, .int .i64 NN, .slice (ab 0) nb (cb 0)) : Value × Value × Value)) N i hi
      have m0 := hrow.cell (i := i * 3) (by omega)
      have m1 := hrow.cell (i := i * 3 + 1) (by omega)
      have m2 := hrow.cell (i := i * 3 + 2) (by omega)
      rw [s0] at m0
      rw [s1] at m1
      rw [s2] at m2
      rw [Nat.zero_add]
      exact ⟨m0, m1, m2⟩
    · rw [replicate_at _ hi, ← hkk, ← hNN, ← hnb]
      have := HCE.out
      rw [← hkk, ← hNN, ← hnb] at this
      exact this
  have HBF := hide (HB.out.2.trans (hb3.mono HB.out.2.size))
  clear hrow hg1 hg2 hb3 HCE HEL HB hkk hNN hnb
  go_wp2
  go_ret
  exact ⟨⟨_, _, _, rfl, HF.out⟩, HBF.out⟩
end Go.Proofs.Ytmjncdhahdpplaa
namespace Go.Proofs.Ytmjncdhahdpplaa
open Go.ChangeShapes Go.WideShapes Go.ChangeAt Go.RowKit
set_option linter.unusedVariables false
set_option maxRecDepth 100000
def joiS (x y : Ar) : Ar × Ar := if x.shape.length = 0 ∧ y.shape.length = 0 then (lstA x, lstA y) else (x, y)
def joiK (last : Bool) (x y : Ar) : Nat := if last then max x.shape.length y.shape.length - 1 else 0
def joiC (x y : Ar) (P Q : List Int) (k : Nat) : List Ce :=
  mkCs ((cinL x.shape.length x.cells (sizeV P).toNat).length + (cinL y.shape.length y.cells (sizeV Q).toNat).length)
    (turnF (cAt (cinL x.shape.length x.cells (sizeV P).toNat)) (cAt (cinL y.shape.length y.cells (sizeV Q).toNat)) ((cinL x.shape.length x.cells (sizeV P).toNat).length / (sizeV (P.take k)).toNat) ((cinL y.shape.length y.cells (sizeV Q).toNat).length / (sizeV (P.take k)).toNat))
def joiT (x y : Ar) (k : Nat) (F : List Int × List Int × Int) : Ar × Int :=
  if ¬ F.2.2 = 0 then (zeroA, F.2.2) else if ¬ sizeE (F.1.set k (gI F.1 k + gI F.2.1 k)) = 0 then (zeroA, sizeE (F.1.set k (gI F.1 k + gI F.2.1 k))) else
  if 16384 < gI F.1 k + gI F.2.1 k then (zeroA, 12) else if sizeV (F.1.set k (gI F.1 k + gI F.2.1 k)) = 0 then (.mk (F.1.set k (gI F.1 k + gI F.2.1 k)) [], 0) else
  (.mk (F.1.set k (gI F.1 k + gI F.2.1 k)) (joiC x y F.1 F.2.1 k), 0)
def joiR (last : Bool) (x y : Ar) : Ar × Int := joiT (joiS x y).1 (joiS x y).2 (joiK last (joiS x y).1 (joiS x y).2) (fitR (joiS x y).1.shape (joiS x y).2.shape (joiK last (joiS x y).1 (joiS x y).2))
theorem fit_ok {s o P Q : List Int} {k : Nat} (h : fitR s o k = (P, Q, 0)) : besR s o k = (P, 0) ∧ besR o s k = (Q, 0) ∧ P.length = max s.length o.length ∧ Q.length = P.length ∧ ∀ i, i < P.length → ¬ i = k → gI P i = gI Q i := by
  unfold fitR at h
  by_cases h1 : (besR s o k).2 = 0
  case neg => rw [if_pos h1] at h; simp only [Prod.mk.injEq] at h; exact absurd h.2.2 h1
  rw [if_neg (by simpa using h1)] at h
  by_cases h2 : (besR o s k).2 = 0
  case neg => rw [if_pos h2] at h; simp only [Prod.mk.injEq] at h; exact absurd h.2.2 h2
  rw [if_neg (by simpa using h2)] at h
  by_cases h3 : firstUp (fitF (besR s o k).1 (besR o s k).1 k) (besR s o k).1.length = 0
  case neg => rw [if_pos h3] at h; simp only [Prod.mk.injEq] at h; exact absurd h.2.2 (by decide)
  rw [if_neg (by simpa using h3)] at h
  simp only [Prod.mk.injEq] at h
  obtain ⟨rfl, rfl, -⟩ := h
  have l1 := bes_len h1
  have l2 := bes_len h2
  refine ⟨by rw [← h1], by rw [← h2], l1, by omega, fun i hi hik => ?_⟩
  have g1 := firstUp_zero h3 i (by omega)
  have g2 := firstUp_zero h3 (i + 1) (by omega)
  rw [firstUp_step g1] at g2
  unfold fitF at g2
  by_cases hg : gI (besR s o k).1 i = gI (besR o s k).1 i
  · exact hg
  · rw [if_pos ⟨hik, hg⟩] at g2; omega
theorem bes_prod {s o P : List Int} {k : Nat} (h : besR s o k = (P, 0)) (h0 : 0 < s.length) : prodL P = prodL s := by
  unfold besR at h
  by_cases h1 : o.length ≤ s.length
  · rw [if_pos h1] at h; simp only [Prod.mk.injEq] at h; rw [← h.1]
  rw [if_neg h1, if_neg (by omega)] at h
  by_cases h3 : o.length = s.length + 1
  · rw [if_pos h3] at h; simp only [Prod.mk.injEq] at h
    rw [← h.1, prodL_append]
    have : prodL (1 :: s.drop k) = 1 * prodL (s.drop k) := rfl
    rw [this, Int.one_mul, ← prodL_append, List.take_append_drop]
  · rw [if_neg h3] at h; simp at h
theorem bes_mem {s o P : List Int} {k : Nat} (h : besR s o k = (P, 0)) {z : Int} (hz : z ∈ P) : z ∈ s ∨ z ∈ o ∨ z = 1 := by
  unfold besR at h
  by_cases h1 : o.length ≤ s.length
  · rw [if_pos h1] at h; simp only [Prod.mk.injEq] at h; rw [← h.1] at hz; exact Or.inl hz
  rw [if_neg h1] at h
  by_cases h2 : s.length = 0
  · rw [if_pos h2] at h; simp only [Prod.mk.injEq] at h; rw [← h.1] at hz
    rcases List.mem_or_eq_of_mem_set hz with h | h
    · exact Or.inr (Or.inl h)
    · exact Or.inr (Or.inr h)
  rw [if_neg h2] at h
  by_cases h3 : o.length = s.length + 1
  · rw [if_pos h3] at h; simp only [Prod.mk.injEq] at h; rw [← h.1] at hz
    rcases List.mem_append.1 hz with h | h
    · exact Or.inl (List.mem_of_mem_take h)
    · rcases List.mem_cons.1 h with h | h
      · exact Or.inr (Or.inr h)
      · exact Or.inl (List.mem_of_mem_drop h)
  · rw [if_neg h3] at h; simp at h
theorem take_set (P : List Int) (k : Nat) (v : Int) : (P.set k v).take k = P.take k := by rw [List.take_set, List.set_eq_of_length_le (by rw [List.length_take]; omega)]
/-- What is known where there is a cell at all. -/
theorem joi_facts {x y : Ar} (hx : chkA 8 x = 0) (hy : chkA 8 y = 0) {k : Nat} {P Q : List Int} (hF : fitR x.shape y.shape k = (P, Q, 0)) (hk : k < P.length) (hs : sizeE (P.set k (gI P k + gI Q k)) = 0) (hN : ¬ sizeV (P.set k (gI P k + gI Q k)) = 0) :
    ∃ t one two NP NQ : Nat, 0 < t ∧ t ≤ 16384 ∧ sizeV (P.take k) = (t : Int) ∧ sizeV P = (NP : Int) ∧ NP ≤ 16384 ∧ sizeV Q = (NQ : Int) ∧ NQ ≤ 16384 ∧ (cinL x.shape.length x.cells NP).length = t * one ∧ (cinL y.shape.length y.cells NQ).length = t * two ∧ sizeV (P.set k (gI P k + gI Q k)) = ((t * one + t * two : Nat) : Int) ∧ t * one + t * two ≤ 16384 := by
  obtain ⟨hP, hQ, lP, lQ, hsame⟩ := fit_ok hF
  have nP : ∀ z ∈ P, 0 ≤ z := fun z hz => by
    rcases bes_mem hP hz with h | h | h
    · exact ((chk_axes hx).1 z h).1
    · exact ((chk_axes hy).1 z h).1
    · omega
  have nQ : ∀ z ∈ Q, 0 ≤ z := fun z hz => by
    rcases bes_mem hQ hz with h | h | h
    · exact ((chk_axes hy).1 z h).1
    · exact ((chk_axes hx).1 z h).1
    · omega
  obtain ⟨l8, -, hc⟩ := fine_cases hs
  rw [List.length_set] at l8
  rcases hc with ⟨-, h0⟩ | ⟨hpos, hle, hv⟩
  · exact absurd h0 hN
  have hp0 := nP _ (getD_mem hk)
  have hq0 := nQ _ (getD_mem (l := Q) (k := k) (by omega))
  change 0 ≤ gI P k at hp0
  change 0 ≤ gI Q k at hq0
  have hL0 : 0 < gI P k + gI Q k := hpos _ (mem_set_self' hk _)
  have e1 := prodL_set P k hk (gI P k + gI Q k)
  have e2 := prodL_set P k hk (gI P k)
  rw [set_gI _ _ hk] at e2
  have e3 := prodL_set Q k (by omega) (gI Q k)
  rw [set_gI _ _ (by omega)] at e3
  have tk : Q.take k = P.take k := gI_ext (by rw [List.length_take, List.length_take, lQ]) fun i hi => by
    rw [List.length_take] at hi
    have h1 : gI (Q.take k) i = gI Q i := by unfold gI; rw [List.getElem?_take_of_lt (by omega)]
    have h2 : gI (P.take k) i = gI P i := by unfold gI; rw [List.getElem?_take_of_lt (by omega)]
    rw [h1, h2]; exact (hsame i (by omega) (by omega)).symm
  have dk : Q.drop (k + 1) = P.drop (k + 1) := gI_ext (by rw [List.length_drop, List.length_drop, lQ]) fun i hi => by
    rw [List.length_drop] at hi
    have h1 : gI (Q.drop (k + 1)) i = gI Q (k + 1 + i) := by unfold gI; rw [List.getElem?_drop]
    have h2 : gI (P.drop (k + 1)) i = gI P (k + 1 + i) := by unfold gI; rw [List.getElem?_drop]
    rw [h1, h2]; exact (hsame _ (by omega) (by omega)).symm
  rw [tk, dk] at e3
  have pT : ∀ z ∈ P.take k, 0 < z := fun z hz => hpos z (by rw [← take_set P k (gI P k + gI Q k)] at hz; exact List.mem_of_mem_take hz)
  have pD : ∀ z ∈ P.drop (k + 1), 0 < z := fun z hz => hpos z (by
    have : (P.set k (gI P k + gI Q k)).drop (k + 1) = P.drop (k + 1) := by rw [List.drop_set_of_lt (by omega)]
    rw [← this] at hz; exact List.mem_of_mem_drop hz)
  have pa := prodL_pos pT
  have pd := prodL_pos pD
  obtain ⟨t, ht⟩ : ∃ t : Nat, prodL (P.take k) = (t : Int) := ⟨(prodL (P.take k)).toNat, by omega⟩
  obtain ⟨d, hd⟩ : ∃ d : Nat, prodL (P.drop (k + 1)) = (d : Int) := ⟨(prodL (P.drop (k + 1))).toNat, by omega⟩
  obtain ⟨p, hp⟩ : ∃ p : Nat, gI P k = (p : Int) := ⟨(gI P k).toNat, by omega⟩
  obtain ⟨q, hq⟩ : ∃ q : Nat, gI Q k = (q : Int) := ⟨(gI Q k).toNat, by omega⟩
  rw [hp, hq, ht, hd] at e1
  rw [hp, ht, hd] at e2
  rw [hq, ht, hd] at e3
  have c1 : prodL (P.set k ((p : Int) + (q : Int))) = ((t * (p * d) + t * (q * d) : Nat) : Int) := by
    rw [e1]; push_cast; rw [Int.add_mul, Int.mul_add]
  have c2 : prodL P = ((t * (p * d) : Nat) : Int) := by rw [e2]; push_cast; rfl
  have c3 : prodL Q = ((t * (q * d) : Nat) : Int) := by rw [e3]; push_cast; rfl
  rw [hp, hq] at hle hv
  rw [c1] at hle hv
  have h16 : t * (p * d) + t * (q * d) ≤ 16384 := by omega
  have ht16 : t ≤ 16384 := by
    have a1 : 1 ≤ (p + q) * d := Nat.mul_pos (by omega) (by omega)
    have a2 : t * 1 ≤ t * ((p + q) * d) := Nat.mul_le_mul_left _ a1
    rw [Nat.add_mul, Nat.mul_add] at a2
    omega
  have fT := fine_mk (l := P.take k) (by rw [List.length_take]; omega) (fun z hz => by have := pT z hz; omega) (Or.inr (by rw [ht]; omega))
  have fP := fine_mk (l := P) l8 nP (Or.inr (by rw [c2]; omega))
  have fQ := fine_mk (l := Q) (by omega) nQ (Or.inr (by rw [c3]; omega))
  have gx := (chkA_iff 8 x).1 hx
  have gy := (chkA_iff 8 y).1 hy
  refine ⟨t, p * d, q * d, t * (p * d), t * (q * d), by omega, ht16, by rw [fT.2, ht], by rw [fP.2, c2], by omega, by rw [fQ.2, c3], by omega, ?_, ?_, ?_, h16⟩
  · unfold cinL
    by_cases h0 : 0 < x.shape.length
    · rw [if_pos h0]
      have := bes_prod hP h0
      have e := sizeV_prod gx.1
      rw [gx.2.1, ← this, c2] at e
      omega
    · rw [if_neg h0, List.length_replicate]
  · unfold cinL
    by_cases h0 : 0 < y.shape.length
    · rw [if_pos h0]
      have := bes_prod hQ h0
      have e := sizeV_prod gy.1
      rw [gy.2.1, ← this, c3] at e
      omega
    · rw [if_neg h0, List.length_replicate]
  · rw [hp, hq, hv]
theorem cin_chk {x : Ar} (hx : chkA 8 x = 0) (N i : Nat) (hi : i < (cinL x.shape.length x.cells N).length) : chkC (inF 8) (cAt (cinL x.shape.length x.cells N) i) = 0 := by
  have g := ((chkA_iff 8 x).1 hx).2.2.2
  unfold cinL at hi ⊢
  by_cases h0 : 0 < x.shape.length
  · rw [if_pos h0] at hi ⊢; exact g i hi
  · rw [if_neg h0, List.length_replicate] at hi
    rw [if_neg h0, replicate_at _ hi]
    exact g 0 (by have := (atom_one hx (by omega)).2; omega)
theorem turn_in' {cA cB : Nat → Ce} {t one two i : Nat} {p : Ce → Prop} (ht : 0 < t) (hA : ∀ j, j < t * one → p (cA j)) (hB : ∀ j, j < t * two → p (cB j)) (hi : i < t * one + t * two) : p (turnF cA cB one two i) := by
  unfold turnF
  have hm : 0 < one + two := by
    rcases Nat.eq_zero_or_pos (one + two) with h | h
    · rw [show one = 0 by omega, show two = 0 by omega] at hi; omega
    · exact h
  have hr : i / (one + two) < t := by rw [Nat.div_lt_iff_lt_mul hm, Nat.mul_add]; exact hi
  have hq := Nat.mod_lt i hm
  by_cases h : i % (one + two) < one
  · rw [if_pos h]
    refine hA _ ?_
    have : (i / (one + two) + 1) * one ≤ t * one := Nat.mul_le_mul_right _ hr
    rw [Nat.add_mul, Nat.one_mul] at this
    omega
  · rw [if_neg h]
    refine hB _ ?_
    have : (i / (one + two) + 1) * two ≤ t * two := Nat.mul_le_mul_right _ hr
    rw [Nat.add_mul, Nat.one_mul] at this
    omega
theorem joiT_chk {x y : Ar} (hx : chkA 8 x = 0) (hy : chkA 8 y = 0) {k : Nat} (hk : k < max x.shape.length y.shape.length) : (¬ (joiT x y k (fitR x.shape y.shape k)).2 = 0 → (joiT x y k (fitR x.shape y.shape k)).1 = zeroA) ∧ ((joiT x y k (fitR x.shape y.shape k)).2 = 0 → chkA 8 (joiT x y k (fitR x.shape y.shape k)).1 = 0) := by
  obtain ⟨⟨P, Q, E⟩, hF⟩ : ∃ F, fitR x.shape y.shape k = F := ⟨_, rfl⟩
  rw [hF]
  unfold joiT
  simp only
  by_cases h1 : E = 0
  case neg => rw [if_pos h1]; exact ⟨fun _ => rfl, fun h => absurd h h1⟩
  subst h1
  rw [if_neg (by simp)]
  obtain ⟨hP, hQ, lP, lQ, hsame⟩ := fit_ok hF
  by_cases h2 : sizeE (P.set k (gI P k + gI Q k)) = 0
  case neg => rw [if_pos h2]; exact ⟨fun _ => rfl, fun h => absurd h h2⟩
  rw [if_neg (by simpa using h2)]
  by_cases h3 : 16384 < gI P k + gI Q k
  · rw [if_pos h3]; exact ⟨fun _ => rfl, fun h => absurd h (by decide)⟩
  rw [if_neg h3]
  have hlong : ¬ hasLong (P.set k (gI P k + gI Q k)) := by
    rintro ⟨z, hz, hl⟩
    rcases List.mem_or_eq_of_mem_set hz with h | h
    · rcases bes_mem hP h with h | h | h
      · exact ((chkA_iff 8 x).1 hx).2.2.1 ⟨z, h, hl⟩
      · exact ((chkA_iff 8 y).1 hy).2.2.1 ⟨z, h, hl⟩
      · omega
    · omega
  by_cases h4 : sizeV (P.set k (gI P k + gI Q k)) = 0
  · rw [if_pos h4]
    refine ⟨fun h => absurd rfl h, fun _ => ?_⟩
    rw [chkA_iff]
    exact ⟨h2, h4, hlong, fun i hi => by simp [Ar.cells] at hi⟩
  rw [if_neg h4]
  refine ⟨fun h => absurd rfl h, fun _ => ?_⟩
  obtain ⟨t, one, two, NP, NQ, ht, ht16, sT, sP, -, sQ, -, lA, lB, sS, h16⟩ := joi_facts hx hy hF (by omega) h2 h4
  have hlen : (joiC x y P Q k).length = t * one + t * two := by unfold joiC; rw [mkCs_len, sP, sQ, Int.toNat_natCast, Int.toNat_natCast, lA, lB]
  rw [chkA_iff]
  refine ⟨h2, by show sizeV (P.set k (gI P k + gI Q k)) = ((joiC x y P Q k).length : Int); rw [sS, hlen], hlong, fun i hi => ?_⟩
  change i < (joiC x y P Q k).length at hi
  show chkC (inF 8) (cAt (joiC x y P Q k) i) = 0
  rw [hlen] at hi
  unfold joiC
  rw [sP, sQ, Int.toNat_natCast, Int.toNat_natCast, sT, Int.toNat_natCast, mkCs_at _ _ _ (by rw [lA, lB]; exact hi), lA, lB, Nat.mul_div_cancel_left _ ht, Nat.mul_div_cancel_left _ ht]
  exact turn_in' (p := fun c => chkC (inF 8) c = 0) ht (fun j hj => cin_chk hx NP j (by rw [lA]; exact hj)) (fun j hj => cin_chk hy NQ j (by rw [lB]; exact hj)) hi
end Go.Proofs.Ytmjncdhahdpplaa
namespace Go.Proofs.Ytmjncdhahdpplaa
open Go.ChangeShapes Go.WideShapes Go.ChangeAt Go.RowKit
set_option linter.unusedVariables false
set_option maxRecDepth 100000
theorem In3.setQ {w W : World} {v0 v1 u0 u1 : Value} (I : In3 w v0 v1 u0 u1 W) (a b : Value) : In3 w a b u0 u1 ((W.setCell ⟨w.heap.size, 0, none⟩ a).setCell ⟨w.heap.size, 1, none⟩ b) := by
  have st := set_two I.q0 I.q1 a b
  refine ⟨(I.bel.setCell (p := ⟨w.heap.size, 0, none⟩) (Nat.le_refl _) _).setCell (p := ⟨w.heap.size, 1, none⟩) (Nat.le_refl _) _, by simpa using I.size, ?_, st.2, ?_, ?_, ?_, ?_, ?_, ?_⟩
  · rw [World.cell?_setCell_other _ _ _ _ (by simp)]; exact st.1
  · rw [World.cell?_setCell_other _ _ _ _ (by simp), World.cell?_setCell_other _ _ _ _ (by simp)]; exact I.r0
  · rw [World.cell?_setCell_other _ _ _ _ (by simp), World.cell?_setCell_other _ _ _ _ (by simp)]; exact I.r1
  · rw [World.cell?_setCell_other _ _ _ _ (by simp), World.cell?_setCell_other _ _ _ _ (by simp)]; exact I.p0
  · rw [World.cell?_setCell_other _ _ _ _ (by simp), World.cell?_setCell_other _ _ _ _ (by simp)]; exact I.p1
  · exact frozen_set _ _ _ _ (frozen_set _ _ _ _ I.f0)
  · exact frozen_set _ _ _ _ (frozen_set _ _ _ _ I.f1)
theorem In3.setR {w W : World} {v0 v1 u0 u1 : Value} (I : In3 w v0 v1 u0 u1 W) (a b : Value) : In3 w v0 v1 a b ((W.setCell ⟨w.heap.size + 1, 0, none⟩ a).setCell ⟨w.heap.size + 1, 1, none⟩ b) := by
  have st := set_two I.r0 I.r1 a b
  refine ⟨(I.bel.setCell (p := ⟨w.heap.size + 1, 0, none⟩) (by show _ ≤ w.heap.size + 1; omega) _).setCell (p := ⟨w.heap.size + 1, 1, none⟩) (by show _ ≤ w.heap.size + 1; omega) _, by simpa using I.size, ?_, ?_, ?_, st.2, ?_, ?_, ?_, ?_⟩
  · rw [World.cell?_setCell_other _ _ _ _ (by simp), World.cell?_setCell_other _ _ _ _ (by simp)]; exact I.q0
  · rw [World.cell?_setCell_other _ _ _ _ (by simp), World.cell?_setCell_other _ _ _ _ (by simp)]; exact I.q1
  · rw [World.cell?_setCell_other _ _ _ _ (by simp)]; exact st.1
  · rw [World.cell?_setCell_other _ _ _ _ (by simp), World.cell?_setCell_other _ _ _ _ (by simp)]; exact I.p0
  · rw [World.cell?_setCell_other _ _ _ _ (by simp), World.cell?_setCell_other _ _ _ _ (by simp)]; exact I.p1
  · exact frozen_set _ _ _ _ (frozen_set _ _ _ _ I.f0)
  · exact frozen_set _ _ _ _ (frozen_set _ _ _ _ I.f1)
theorem keeps_of_below {lo : Nat} {w w' : World} (hb : Below w.heap.size w w') : Keeps lo w w' := ⟨hb.size, fun b _ h => hb.block b h⟩
/-- Cells in turn, as an array's cells. -/
theorem turned_cells {n lo lo' t one two : Nat} {w0 W wE : World} {A B : List Ce} {a b : Option Addr} {nA cA nB cB : Nat} (hE : Below wE.heap.size wE W) (hA : CinP n lo w0 W A a nA cA) (hB : CinP n lo' w0 W B b nB cB) (ht : 0 < t) (ht16 : t ≤ 16384) (lA : A.length = t * one) (lB : B.length = t * two) (h16 : t * one + t * two ≤ 16384) :
    Calls Try.prog 100 #[.slice a nA cA, .slice b nB cB, .int .i64 (t : Int)] W fun e w' => (∃ g, e = .returned (.slice (some ⟨g, 0, none⟩) (t * one + t * two) (t * one + t * two)) ∧ ∀ V, Below w0.heap.size w0 V → Keeps W.heap.size w' V → CellsIn n 0 V (mkCs (t * one + t * two) (turnF (cAt A) (cAt B) one two)) (some ⟨g, 0, none⟩)) ∧ Below wE.heap.size wE w' ∧ Below W.heap.size W w' := by
  obtain ⟨hn, TA, sA, cA'⟩ := hA
  obtain ⟨hm, TB, sB, cB'⟩ := hB
  rw [lA] at hn
  rw [lB] at hm
  have C := inTurn_any a b nA cA nB cB t one two TA TB W sA sB ht hn hm (by omega) ht16
  rw [hn, hm] at C
  rw [hn, hm]
  refine C.mono ?_
  rintro e w' ⟨⟨g, rfl, hg1, hg2, hrow⟩, hb⟩
  refine ⟨⟨g, rfl, fun V hV hK => ?_⟩, hE.trans (hb.mono hE.size), hb⟩
  by_cases h0 : t * one + t * two = 0
  · left; rw [h0]; rfl
  refine Or.inr ⟨g, 0, rfl, Nat.zero_le _, Nat.lt_of_lt_of_le hg2 hK.1, fun i hi => ?_⟩
  rw [mkCs_len] at hi
  rw [Nat.zero_add, mkCs_at _ _ _ hi]
  have ap : ∀ (o : Nat) (q : Value), w'.cell? ⟨g, o, none⟩ = some q → V.cell? ⟨g, o, none⟩ = some q := fun o q h => (hK.cell (p := ⟨g, o, none⟩) hg1 hg2).trans h
  obtain ⟨s0, s1, s2⟩ := gF_at (turnF TA TB one two) (t * one + t * two) i hi
  have m0 := hrow.cell (i := i * 3) (by omega)
  have m1 := hrow.cell (i := i * 3 + 1) (by omega)
  have m2 := hrow.cell (i := i * 3 + 2) (by omega)
  rw [s0] at m0
  rw [s1] at m1
  rw [s2] at m2
  refine ⟨_, _, _, ap _ _ m0, ap _ _ m1, ap _ _ m2, ?_⟩
  have hmm : 0 < one + two := by
    rcases Nat.eq_zero_or_pos (one + two) with h | h
    · rw [show one = 0 by omega, show two = 0 by omega] at hi; omega
    · exact h
  have hr : i / (one + two) < t := by rw [Nat.div_lt_iff_lt_mul hmm, Nat.mul_add]; exact hi
  have hq := Nat.mod_lt i hmm
  unfold turnF
  by_cases h : i % (one + two) < one
  · simp only [if_pos h]
    have : (i / (one + two) + 1) * one ≤ t * one := Nat.mul_le_mul_right _ hr
    rw [Nat.add_mul, Nat.one_mul] at this
    exact (cA' _ (by omega)).mono (Nat.zero_le _) hV fun x v h => h.mono (Nat.zero_le _) hV
  · simp only [if_neg h]
    have : (i / (one + two) + 1) * two ≤ t * two := Nat.mul_le_mul_right _ hr
    rw [Nat.add_mul, Nat.one_mul] at this
    exact (cB' _ (by omega)).mono (Nat.zero_le _) hV fun x v h => h.mono (Nat.zero_le _) hV
end Go.Proofs.Ytmjncdhahdpplaa
namespace Go.Proofs.Ytmjncdhahdpplaa
open Go.ChangeShapes Go.WideShapes Go.ChangeAt Go.RowKit
set_option linter.unusedVariables false
set_option maxRecDepth 100000
set_option maxHeartbeats 4000000 in
theorem joined_any {n lo lo' : Nat} {x y : Ar} {va vb : Value} {w0 w : World} (hx : ArIn (n + 1) lo w0 x va) (hy : ArIn (n + 1) lo' w0 y vb) (hb0 : Below w0.heap.size w0 w) (hcx : chkA 8 x = 0) (hcy : chkA 8 y = 0) (hcapx : Caps va) (hcapy : Caps vb) (last : Bool) :
    Calls Try.prog 79 #[va, vb, .bool last] w fun e w' => Gives2K (n + 1) w0 (joiR last x y).1 (joiR last x y).2 w e w' := by
  obtain ⟨a1, c1, a2, c2, rfl, R, hc⟩ := hx.form
  obtain ⟨b1, d1, b2, d2, rfl, R', hc'⟩ := hy.form
  have I := in3_new w (.slice a1 x.shape.length c1) (.slice a2 x.cells.length c2) (.slice b1 y.shape.length d1) (.slice b2 y.cells.length d2)
  have hfq := fun i => ((two_allocs (w.alloc (.cells #[.slice a1 x.shape.length c1, .slice a2 x.cells.length c2] 25)) (.cells #[.slice b1 y.shape.length d1, .slice b2 y.cells.length d2] 25) (.cells #[.slice none 0 0, .slice none 0 0] 25)).frozen (p := ⟨w.heap.size, i, none⟩) (by simp)).trans (frozen_new w #[.slice a1 x.shape.length c1, .slice a2 x.cells.length c2] 25 i)
  have hfr := fun i => ((one_alloc ((w.alloc (.cells #[.slice a1 x.shape.length c1, .slice a2 x.cells.length c2] 25)).alloc (.cells #[.slice b1 y.shape.length d1, .slice b2 y.cells.length d2] 25)) (.cells #[.slice none 0 0, .slice none 0 0] 25)).frozen (p := ⟨w.heap.size + 1, i, none⟩) (by simp)).trans (frozen_new1 w #[.slice b1 y.shape.length d1, .slice b2 y.cells.length d2] 25 (.cells #[.slice a1 x.shape.length c1, .slice a2 x.cells.length c2] 25) i)
  obtain ⟨W3, e3⟩ : ∃ W3, ((w.alloc (.cells #[.slice a1 x.shape.length c1, .slice a2 x.cells.length c2] 25)).alloc (.cells #[.slice b1 y.shape.length d1, .slice b2 y.cells.length d2] 25)).alloc (.cells #[.slice none 0 0, .slice none 0 0] 25) = W3 := ⟨_, rfl⟩
  rw [e3] at I hfq hfr
  have NB : Below w0.heap.size w0 W3 := hb0.trans (I.bel.mono hb0.size)
  have q0 := I.q0
  have q1 := I.q1
  have r0 := I.r0
  have r1 := I.r1
  have HI := hide I
  have HNB := hide NB
  have HB0 := hide hb0
  have HFQ := hide hfq
  have HFR := hide hfr
  obtain ⟨lx8, cx16⟩ := chk_len hcx
  obtain ⟨ly8, cy16⟩ := chk_len hcy
  have HCK := hide (And.intro hcx hcy)
  have HCC := hide (And.intro hc (And.intro hc' (And.intro (caps_form hcapx).2 (caps_form hcapy).2)))
  obtain ⟨X, hX⟩ : ∃ X, (joiS x y).1 = X := ⟨_, rfl⟩
  obtain ⟨Y, hY⟩ : ∃ Y, (joiS x y).2 = Y := ⟨_, rfl⟩
  have HXY : Hid (X.cells = x.cells ∧ Y.cells = y.cells ∧ chkA 8 X = 0 ∧ chkA 8 Y = 0 ∧ 0 < max X.shape.length Y.shape.length) := by
    rw [← hX, ← hY]
    unfold joiS
    by_cases h : x.shape.length = 0 ∧ y.shape.length = 0
    · rw [if_pos h]
      have h1 := lst_facts hcx
      have h2 := lst_facts hcy
      exact ⟨h1.2.1, h2.2.1, h1.1, h2.1, by have := h1.2.2; show 0 < max (lstA x).shape.length _; omega⟩
    · rw [if_neg h]
      exact ⟨rfl, rfl, hcx, hcy, by show 0 < max x.shape.length y.shape.length; omega⟩
  have HJ : Hid (joiR last x y = joiT X Y (joiK last X Y) (fitR X.shape Y.shape (joiK last X Y))) := by unfold Hid joiR; rw [hX, hY]
  have HRR := hide (And.intro R R')
  have HPX : Hid (∀ W, Below w0.heap.size w0 W → Calls Try.prog 76 #[.agg #[.slice a1 x.shape.length c1, .slice a2 x.cells.length c2]] W fun e w' => LstIs w0 x a2 c2 W e w') := fun W h => plisted_row hx h hcapx
  have HPY : Hid (∀ W, Below w0.heap.size w0 W → Calls Try.prog 76 #[.agg #[.slice b1 y.shape.length d1, .slice b2 y.cells.length d2]] W fun e w' => LstIs w0 y b2 d2 W e w') := fun W h => plisted_row hy h hcapy
  have HCP := hide (And.intro (caps_form hcapx).1 (caps_form hcapy).1)
  obtain ⟨SX, hSX⟩ : ∃ SX, x.shape.length = SX := ⟨_, rfl⟩
  obtain ⟨CX, hCX⟩ : ∃ CX, x.cells.length = CX := ⟨_, rfl⟩
  obtain ⟨SY, hSY⟩ : ∃ SY, y.shape.length = SY := ⟨_, rfl⟩
  obtain ⟨CY, hCY⟩ : ∃ CY, y.cells.length = CY := ⟨_, rfl⟩
  have HSC := hide (And.intro hSX (And.intro hCX (And.intro hSY hCY)))
  have HXYS : Hid ((SX = 0 ∧ SY = 0 → X.shape = [1] ∧ Y.shape = [1]) ∧ (¬ (SX = 0 ∧ SY = 0) → X = x ∧ Y = y)) := by
    rw [← hX, ← hY, ← hSX, ← hSY]
    unfold joiS
    refine ⟨fun h => ?_, fun h => ?_⟩
    · rw [if_pos h]
      exact ⟨by show (lstA x).shape = _; unfold lstA; rw [if_pos h.1]; rfl, by show (lstA y).shape = _; unfold lstA; rw [if_pos h.2]; rfl⟩
    · rw [if_neg h]; exact ⟨rfl, rfl⟩
  simp only [hSX, hCX, hSY, hCY] at e3 q0 q1 r0 r1 HI HCC HPX HPY HCP lx8 cx16 ly8 cy16 ⊢
  clear R hc I hx R' hc' hSX hCX hSY hCY hb0 hcx hcy hcapx hcapy NB hfq hfr hX hY hy
  go_enter Try.func79, Try.ntmps79
  obtain ⟨bb, hbb⟩ : ∃ bb : Bool, decide (SX = 0 ∧ SY = 0) = bb := ⟨_, rfl⟩
  have HBB := hide hbb
  clear hbb
  go_upto_region 1 with fail
  go_cut [25] from 16 to 25 (fun s wx => s = .bool bb ∧ wx = W3)
  case first =>
    by_cases h1 : SX = 0
    · have hS1 : ((SX : Int) == 0) = true := by simp [h1]
      by_cases h2 : SY = 0
      · have hS2 : ((SY : Int) == 0) = true := by simp [h2]
        have hb : bb = true := by rw [← HBB.out]; exact decide_eq_true ⟨h1, h2⟩
        subst hb
        clear h1 h2
        go_wp2
        go_meet
        exact ⟨rfl, rfl⟩
      · have hS2 : ((SY : Int) == 0) = false := by simp; omega
        have hb : bb = false := by rw [← HBB.out]; exact decide_eq_false fun h => h2 h.2
        subst hb
        clear h1 h2
        go_wp2
        go_meet
        exact ⟨rfl, rfl⟩
    · have hS1 : ((SX : Int) == 0) = false := by simp; omega
      have hb : bb = false := by rw [← HBB.out]; exact decide_eq_false fun h => h1 h.1
      subst hb
      clear h1
      go_wp2
      go_meet
      exact ⟨rfl, rfl⟩
  case rest =>
  obtain ⟨rfl, hwc⟩ := hcut
  have hwc' := hwc.symm
  subst hwc'
  clear hwc
  go_upto_if 25 with fail
  go_cut [25] from 25 to 29 (fun s wx => ∃ s1 k1 s2 k2, In3 w (.slice s1 X.shape.length k1) (.slice a2 CX c2) (.slice s2 Y.shape.length k2) (.slice b2 CY d2) wx ∧ Row 0 wx s1 X.shape ∧ Row 0 wx s2 Y.shape ∧ Below w0.heap.size w0 wx)
  case first =>
    by_cases hS : SX = 0 ∧ SY = 0
    · obtain ⟨e1, e2⟩ := HXYS.out.1 hS
      have hb : bb = true := by rw [← HBB.out]; exact decide_eq_true hS
      subst hb
      have CLX : Hid (∀ W, Below W3.heap.size W3 W → Calls Try.prog 76 #[.agg #[.slice a1 SX c1, .slice a2 CX c2]] W fun e w' => (∃ s1 k1, e = .returned (.agg #[.slice s1 1 k1, .slice a2 CX c2]) ∧ ∀ V, Below w0.heap.size w0 V → Keeps W.heap.size w' V → Row 0 V s1 [1]) ∧ Below W3.heap.size W3 w' ∧ Below W.heap.size W w') := by
        intro W h
        refine (HPX.out W (HNB.out.trans (h.mono HNB.out.size))).mono ?_
        rintro e w' ⟨⟨s1, k1, rfl, -, hr⟩, hb⟩
        have el : (lstA x).shape = [1] := by unfold lstA; rw [if_pos (by rw [HSC.out.1]; exact hS.1)]; rfl
        rw [el] at hr ⊢
        rw [HSC.out.2.1]
        exact ⟨⟨_, _, rfl, hr⟩, h.trans (hb.mono h.size), hb⟩
      have CLY : Hid (∀ W, Below W3.heap.size W3 W → Calls Try.prog 76 #[.agg #[.slice b1 SY d1, .slice b2 CY d2]] W fun e w' => (∃ s1 k1, e = .returned (.agg #[.slice s1 1 k1, .slice b2 CY d2]) ∧ ∀ V, Below w0.heap.size w0 V → Keeps W.heap.size w' V → Row 0 V s1 [1]) ∧ Below W3.heap.size W3 w' ∧ Below W.heap.size W w') := by
        intro W h
        refine (HPY.out W (HNB.out.trans (h.mono HNB.out.size))).mono ?_
        rintro e w' ⟨⟨s1, k1, rfl, -, hr⟩, hb⟩
        have el : (lstA y).shape = [1] := by unfold lstA; rw [if_pos (by rw [HSC.out.2.2.1]; exact hS.2)]; rfl
        rw [el] at hr ⊢
        rw [HSC.out.2.2.2]
        exact ⟨⟨_, _, rfl, hr⟩, h.trans (hb.mono h.size), hb⟩
      have HD0 : Hid (Below W3.heap.size W3 W3.drew) := (Below.refl _ _).drew
      have KS : Hid (∀ W, Below W3.heap.size W3 W → (Below W3.heap.size W3 W ∧ W.cell? ⟨w.heap.size, 0, none⟩ = some (.slice a1 SX c1) ∧ W.cell? ⟨w.heap.size, 1, none⟩ = some (.slice a2 CX c2) ∧ W.cell? ⟨w.heap.size + 1, 0, none⟩ = some (.slice b1 SY d1) ∧ W.cell? ⟨w.heap.size + 1, 1, none⟩ = some (.slice b2 CY d2))) := fun W h => ⟨h, (HI.out.next h).q0, (HI.out.next h).q1, (HI.out.next h).r0, (HI.out.next h).r1⟩
      have HFZ : Hid (∀ W, Below W3.heap.size W3 W → ∀ i, W.frozen? ⟨w.heap.size, i, none⟩ = false ∧ W.frozen? ⟨w.heap.size + 1, i, none⟩ = false) := by
        intro W h i
        have hz := HI.out.size
        exact ⟨(h.frozen (p := ⟨w.heap.size, i, none⟩) (by show w.heap.size < _; omega)).trans (HFQ.out i), (h.frozen (p := ⟨w.heap.size + 1, i, none⟩) (by show w.heap.size + 1 < _; omega)).trans (HFR.out i)⟩
      have HFIN : Hid (∀ W s1 k1 s2 k2, Below W3.heap.size W3 W → (∀ V, Below w0.heap.size w0 V → Keeps W3.heap.size W V → Row 0 V s1 [1]) → (∀ V, Below w0.heap.size w0 V → Keeps W3.heap.size W V → Row 0 V s2 [1]) → ∃ s1' k1' s2' k2', In3 w (.slice s1' X.shape.length k1') (.slice a2 CX c2) (.slice s2' Y.shape.length k2') (.slice b2 CY d2) ((((W.setCell ⟨w.heap.size, 0, none⟩ (.slice s1 1 k1)).setCell ⟨w.heap.size, 1, none⟩ (.slice a2 CX c2)).setCell ⟨w.heap.size + 1, 0, none⟩ (.slice s2 1 k2)).setCell ⟨w.heap.size + 1, 1, none⟩ (.slice b2 CY d2)) ∧ Row 0 ((((W.setCell ⟨w.heap.size, 0, none⟩ (.slice s1 1 k1)).setCell ⟨w.heap.size, 1, none⟩ (.slice a2 CX c2)).setCell ⟨w.heap.size + 1, 0, none⟩ (.slice s2 1 k2)).setCell ⟨w.heap.size + 1, 1, none⟩ (.slice b2 CY d2)) s1' X.shape ∧ Row 0 ((((W.setCell ⟨w.heap.size, 0, none⟩ (.slice s1 1 k1)).setCell ⟨w.heap.size, 1, none⟩ (.slice a2 CX c2)).setCell ⟨w.heap.size + 1, 0, none⟩ (.slice s2 1 k2)).setCell ⟨w.heap.size + 1, 1, none⟩ (.slice b2 CY d2)) s2' Y.shape ∧ Below w0.heap.size w0 ((((W.setCell ⟨w.heap.size, 0, none⟩ (.slice s1 1 k1)).setCell ⟨w.heap.size, 1, none⟩ (.slice a2 CX c2)).setCell ⟨w.heap.size + 1, 0, none⟩ (.slice s2 1 k2)).setCell ⟨w.heap.size + 1, 1, none⟩ (.slice b2 CY d2))) := by
        intro W s1 k1 s2 k2 h h1 h2
        have I5 := ((HI.out.next h).setQ (.slice s1 1 k1) (.slice a2 CX c2)).setR (.slice s2 1 k2) (.slice b2 CY d2)
        have hz := HI.out.size
        have hV := HB0.out.trans (I5.bel.mono HB0.out.size)
        have hK : Keeps W3.heap.size W ((((W.setCell ⟨w.heap.size, 0, none⟩ (.slice s1 1 k1)).setCell ⟨w.heap.size, 1, none⟩ (.slice a2 CX c2)).setCell ⟨w.heap.size + 1, 0, none⟩ (.slice s2 1 k2)).setCell ⟨w.heap.size + 1, 1, none⟩ (.slice b2 CY d2)) := ((((Keeps.refl _ _).setCell (p := ⟨w.heap.size, 0, none⟩) (by show w.heap.size < _; omega) _).setCell (p := ⟨w.heap.size, 1, none⟩) (by show w.heap.size < _; omega) _).setCell (p := ⟨w.heap.size + 1, 0, none⟩) (by show w.heap.size + 1 < _; omega) _).setCell (p := ⟨w.heap.size + 1, 1, none⟩) (by show w.heap.size + 1 < _; omega) _
        rw [e1, e2]
        exact ⟨s1, k1, s2, k2, I5, h1 _ hV hK, h2 _ hV hK, hV⟩
      clear hS e3
      go_wp2
      go_region_with
        (first | (go_at_call 76; first
          | ((with_reducible refine (CLX.out _ HD0.out).mono ?_); rintro e wx ⟨⟨s1, k1, rfl, hr1⟩, gx, hbx⟩; obtain ⟨-, m1, m2, m3, m4⟩ := KS.out wx gx)
          | ((with_reducible refine (CLY.out _ HD0.out).mono ?_); rintro e wy ⟨⟨s2, k2, rfl, hr2⟩, gy, hby⟩; obtain ⟨-, m1, m2, m3, m4⟩ := KS.out wy gy)
          | ((with_reducible refine (CLY.out wx gx).mono ?_); rintro e wy ⟨⟨s2, k2, rfl, hr2⟩, gy, hby⟩; have hfin := HFIN.out wy s1 k1 s2 k2 gy (fun V hV hK => hr1 V hV ((keeps_of_below hby).trans hK)) (fun V hV hK => hr2 V hV (hK.mono gx.size)); obtain ⟨-, l1, l2, l3, l4⟩ := KS.out wy gy; obtain ⟨v1, v2⟩ := HFZ.out wy gy 0; obtain ⟨v3, v4⟩ := HFZ.out wy gy 1)
          | ((with_reducible refine (CLX.out wy gy).mono ?_); rintro e wx ⟨⟨s1, k1, rfl, hr1⟩, gx, hbx⟩; have hfin := HFIN.out wx s1 k1 s2 k2 gx (fun V hV hK => hr1 V hV (hK.mono gy.size)) (fun V hV hK => hr2 V hV ((keeps_of_below hbx).trans hK)); obtain ⟨-, l1, l2, l3, l4⟩ := KS.out wx gx; obtain ⟨v1, v2⟩ := HFZ.out wx gx 0; obtain ⟨v3, v4⟩ := HFZ.out wx gx 1)))
      all_goals
        have HFF := hide hfin
        clear hfin
        go_wp2
        go_meet
      all_goals
        case rel => exact HFF.out
    · obtain ⟨rfl, rfl⟩ := HXYS.out.2 hS
      have HFF : Hid (∃ s1 k1 s2 k2, In3 w (.slice s1 X.shape.length k1) (.slice a2 CX c2) (.slice s2 Y.shape.length k2) (.slice b2 CY d2) W3 ∧ Row 0 W3 s1 X.shape ∧ Row 0 W3 s2 Y.shape ∧ Below w0.heap.size w0 W3) := by
        rw [HSC.out.1, HSC.out.2.2.1]
        exact ⟨_, _, _, _, HI.out, (HRR.out.1.low (Nat.zero_le _)).next HNB.out, (HRR.out.2.low (Nat.zero_le _)).next HNB.out, HNB.out⟩
      have hb : bb = false := by rw [← HBB.out]; exact decide_eq_false hS
      subst hb
      clear hS
      go_wp2
      go_meet
      exact HFF.out
  case rest =>
  obtain ⟨s1, k1, s2, k2, I4, RX, RY, NB4⟩ := hcut
  clear e3 q0 q1 r0 r1
  generalize wc = wA at *
  clear HPX HPY HRR HFQ HFR HXYS HBB HCP HI HNB
  obtain ⟨hXc, hYc, hcX, hcY, hmax⟩ := HXY.out
  have HCHK := hide (And.intro hcX hcY)
  have hX8 := (chk_len hcX).1
  have hY8 := (chk_len hcY).1
  obtain ⟨k, hkk⟩ : ∃ k, joiK last X Y = k := ⟨_, rfl⟩
  have HK : Hid ((last = true → k = max X.shape.length Y.shape.length - 1) ∧ (last = false → k = 0)) := by
    rw [← hkk]; unfold joiK
    exact ⟨fun h => by rw [h]; rfl, fun h => by rw [h]; rfl⟩
  rw [hkk] at HJ
  have hkl : k < max X.shape.length Y.shape.length := by
    cases last
    · have := HK.out.2 rfl; omega
    · have := HK.out.1 rfl; omega
  have hk1 : X.shape.length < Y.shape.length → k = 0 ∨ k + 1 = Y.shape.length := fun h => by
    cases last
    · exact Or.inl (HK.out.2 rfl)
    · have := HK.out.1 rfl; omega
  have hk2 : Y.shape.length < X.shape.length → k = 0 ∨ k + 1 = X.shape.length := fun h => by
    cases last
    · exact Or.inl (HK.out.2 rfl)
    · have := HK.out.1 rfl; omega
  have C := fitted_any X.shape Y.shape s1 s2 k1 k2 k wA RX RY hX8 hY8 hk1 hk2
  unfold FitIs at C
  obtain ⟨⟨P, Q, E⟩, hF⟩ : ∃ F, fitR X.shape Y.shape k = F := ⟨_, rfl⟩
  rw [hF] at C HJ
  simp only at C
  have HF := hide hF
  have HI4 := hide (And.intro I4 NB4)
  have q0 := I4.q0
  have q1 := I4.q1
  have r0 := I4.r0
  have r1 := I4.r1
  have HXL : Hid (joiR last x y = joiT X Y k (P, Q, E)) := HJ.out
  have HKL := hide hkl
  clear hkk HJ HXY hF hk1 hk2 RX RY NB4 I4 hcX hcY
  obtain ⟨TX, hTX⟩ : ∃ z, X.shape.length = z := ⟨_, rfl⟩
  obtain ⟨TY, hTY⟩ : ∃ z, Y.shape.length = z := ⟨_, rfl⟩
  have HTL := hide (And.intro hTX hTY)
  rw [hTX] at C q0 hmax HK HKL HI4 hX8 hkl
  rw [hTY] at C r0 hmax HK HKL HI4 hY8 hkl
  clear hTX hTY
  go_upto_if 30 with fail
  go_cut [8] from 30 to 38 (fun s wx => s = .int .i64 (k : Int) ∧ wx = wA)
  case first =>
    cases last with
    | false =>
      have h0 := HK.out.2 rfl
      clear C
      go_wp2
      go_meet
      exact ⟨by rw [h0]; rfl, rfl⟩
    | true =>
      have h0 := HK.out.1 rfl
      clear C
      go_wp2
      all_goals
        go_meet
        refine ⟨congrArg (Value.int .i64) ?_, rfl⟩
        omega
  case rest =>
  obtain ⟨rfl, hwc⟩ := hcut
  have hwc' := hwc.symm
  subst hwc'
  clear hwc HK
  go_wp2_with fail
  clear q0 q1 r0 r1
  refine C.mono ?_
  clear C
  rintro e wB ⟨⟨pa, np, pc, qa, nq, qc, rfl, hnp, RP, hnq, RQ⟩, hbB⟩
  have I5 := HI4.out.1.next hbB
  have NB5 := HI4.out.2.trans (hbB.mono HI4.out.2.size)
  by_cases hE : E = 0
  case neg =>
    have HE5 : Hid (joiR last x y = (zeroA, E)) := by unfold Hid; rw [HXL.out]; unfold joiT; rw [if_pos hE]
    have hne : (E == 0) = false := beq_eq_false_iff_ne.2 hE
    have HT := hide (I5.put (.slice none 0 0) (.slice none 0 0))
    have HI5 := hide I5
    have p0 := I5.p0
    have p1 := I5.p1
    have f0 := I5.f0
    have f1 := I5.f1
    clear RP RQ hbB I5 NB5 HI4 HCC HXL hnp hnq
    go_wp2
    exact bodyPost_ret (v := .tuple #[.agg #[.slice none 0 0, .slice none 0 0], .int .i64 E]) (by simp [results, Try.results79, go_sem, HT.out.1, HT.out.2]) rfl (gives2k_of HE5.out caps_nil (fun _ _ _ => zeroA_in _ _ _) (HI5.out.fin _ _))
  subst hE
  obtain ⟨hP, hQ, lP, lQ, hsame⟩ := fit_ok HF.out
  have hkP : k < P.length := by rw [lP, HTL.out.1, HTL.out.2]; exact hkl
  have mP : ∀ z ∈ P, 0 ≤ z ∧ z ≤ 16384 := fun z hz => by
    rcases bes_mem hP hz with h | h | h
    · exact (chk_axes HCHK.out.1).1 z h
    · exact (chk_axes HCHK.out.2).1 z h
    · omega
  have mQ : ∀ z ∈ Q, 0 ≤ z ∧ z ≤ 16384 := fun z hz => by
    rcases bes_mem hQ hz with h | h | h
    · exact (chk_axes HCHK.out.2).1 z h
    · exact (chk_axes HCHK.out.1).1 z h
    · omega
  obtain ⟨pb, po, rfl, hpb, hpc⟩ := row_at RP (j := k) hkP
  obtain ⟨qb, qo, rfl, hqb, hqc⟩ := row_at RQ (j := k) (by omega)
  have bP := mP _ (getD_mem hkP)
  have bQ := mQ _ (getD_mem (l := Q) (k := k) (by omega))
  have hjT : Hid (joiR last x y = if ¬ sizeE (P.set k (gI P k + gI Q k)) = 0 then (zeroA, sizeE (P.set k (gI P k + gI Q k))) else if 16384 < gI P k + gI Q k then (zeroA, 12) else if sizeV (P.set k (gI P k + gI Q k)) = 0 then (.mk (P.set k (gI P k + gI Q k)) [], 0) else (.mk (P.set k (gI P k + gI Q k)) (joiC X Y P Q k), 0)) := by
    unfold Hid; rw [HXL.out]; unfold joiT; rw [if_neg (by simp)]
  have HJF := hide (fun h1 h2 => joi_facts HCHK.out.1 HCHK.out.2 HF.out hkP h1 h2)
  change 0 ≤ gI P k ∧ gI P k ≤ 16384 at bP
  change 0 ≤ gI Q k ∧ gI Q k ≤ 16384 at bQ
  change wB.cell? _ = some (.int .i64 (gI P k)) at hpc
  change wB.cell? _ = some (.int .i64 (gI Q k)) at hqc
  obtain ⟨L, hL⟩ : ∃ L, gI P k + gI Q k = L := ⟨_, rfl⟩
  rw [hL] at hjT HJF
  generalize gI P k = zp at *
  generalize gI Q k = zq at *
  have hwL : IntKind.i64.wrap (zp + zq) = L := by rw [hL, IntKind.wrap_i64]; omega
  have hLb : 0 ≤ L ∧ L ≤ 32768 := by omega
  have h8 : P.length ≤ 8 := by rw [lP, HTL.out.1, HTL.out.2]; omega
  have CR : Hid (∀ W, Below wB.heap.size wB W → Calls Try.prog 95 #[.slice (some ⟨pb, po, none⟩) np pc, .int .i64 (k : Int), .int .i64 L] W fun e w' => (∃ a' cap', e = .returned (.tuple #[.slice a' np cap', .int .i64 (sizeV (P.set k L)), .int .i64 (sizeE (P.set k L))]) ∧ Own1 W w' a' cap' (P.set k L)) ∧ Below W.heap.size W w') := by
    intro W h
    have := reshaped_any P (some ⟨pb, po, none⟩) pc k L W (RP.next h) h8 hkP
    rw [hnp]
    exact this
  obtain ⟨SE, hSE⟩ : ∃ z, sizeE (P.set k L) = z := ⟨_, rfl⟩
  obtain ⟨SV, hSV⟩ : ∃ z, sizeV (P.set k L) = z := ⟨_, rfl⟩
  have HSEV := hide (And.intro hSE hSV)
  rw [hSE, hSV] at CR hjT HJF
  have HD0 : Hid (Below wB.heap.size wB wB.drew) := (Below.refl _ _).drew
  have KS : Hid (∀ W, Below wB.heap.size wB W → (Below wB.heap.size wB W ∧ W.cell? ⟨pb, po + k, none⟩ = some (.int .i64 zp) ∧ W.cell? ⟨qb, qo + k, none⟩ = some (.int .i64 zq))) := fun W h => ⟨h, (h.cell (p := ⟨pb, po + k, none⟩) hpb).trans hpc, (h.cell (p := ⟨qb, qo + k, none⟩) hqb).trans hqc⟩
  have HAF : Hid (∀ W W', Below wB.heap.size wB W → Below W.heap.size W W' → Below wB.heap.size wB W') := fun W W' h1 h2 => h1.trans (h2.mono h1.size)
  have HIB : Hid (w.heap.size + 3 ≤ wB.heap.size) := I5.size
  have HI5 := hide (And.intro I5 NB5)
  have HRPQ := hide (And.intro RP RQ)
  have HNPQ := hide (And.intro hnp (And.intro hnq (And.intro hkP h8)))
  clear I5 NB5 RP RQ hbB HI4 hP hQ hsame mP mQ hSE hSV hL lP hpb hqb
  have hk8 : k < np := by rw [hnp]; exact hkP
  have hk8q : k < nq := by rw [hnq]; omega
  clear hnp hnq lQ hkP h8
  go_wp2
  go_cut [12, 13, 11] from 53 to 68 (fun s12 s13 s11 wx => ∃ wv as' cs', s12 = .slice as' np cs' ∧ s13 = .int .i64 SV ∧ s11 = .int .i64 SE ∧ Below wB.heap.size wB wv ∧ Below wv.heap.size wv wx ∧ Own1 wv wx as' cs' (P.set k L))
  case first =>
    go_region_held3 (fun W => Below wB.heap.size wB W ∧ W.cell? ⟨pb, po + k, none⟩ = some (.int .i64 zp) ∧ W.cell? ⟨qb, qo + k, none⟩ = some (.int .i64 zq))
      (first | with_reducible exact KS.out _ HD0.out | with_reducible exact KS.out _ (HAF.out _ _ HD0.out (by with_reducible assumption)))
      (first | (go_at_call 95; (with_reducible refine (CR.out _ HD0.out).mono ?_); rintro e w9 ⟨⟨as', cs', rfl, ho⟩, hb9⟩))
    have HF9 := hide (And.intro ho hb9)
    clear ho hb9
    go_wp2
    go_meet
    exact ⟨_, _, _, rfl, rfl, rfl, HD0.out, HF9.out.2, HF9.out.1⟩
  case rest =>
  obtain ⟨wv, as', cs', rfl, rfl, rfl, hbv, hb9, ho⟩ := hcut
  generalize wc = wC at *
  have BWC : Below wB.heap.size wB wC := hbv.trans (hb9.mono hbv.size)
  have I9 := HI5.out.1.next BWC
  have NB9 := HI5.out.2.trans (BWC.mono HI5.out.2.size)
  have hLS : (P.set k L).length = np := by rw [List.length_set]; exact HNPQ.out.1.symm
  have HRP := hide (HRPQ.out.1.next BWC)
  have HRQ := hide (HRPQ.out.2.next BWC)
  have HO9 := hide (And.intro ho (And.intro hbv hb9))
  have HI9 := hide (And.intro I9 NB9)
  clear KS HAF HD0 CR HRPQ HI5 hpc hqc hwL
  by_cases hS1 : SE = 0
  case neg =>
    have HE5 : Hid (joiR last x y = (zeroA, SE)) := by unfold Hid; rw [hjT.out, if_pos hS1]
    have hne : (SE == 0) = false := beq_eq_false_iff_ne.2 hS1
    have HT := hide (I9.put (.slice none 0 0) (.slice none 0 0))
    have p0 := I9.p0
    have p1 := I9.p1
    have f0 := I9.f0
    have f1 := I9.f1
    clear hb9 hbv ho I9 NB9 HCC hjT HJF BWC
    go_wp2
    exact bodyPost_ret (v := .tuple #[.agg #[.slice none 0 0, .slice none 0 0], .int .i64 SE]) (by simp [results, Try.results79, go_sem, HT.out.1, HT.out.2]) rfl (gives2k_of HE5.out caps_nil (fun _ _ _ => zeroA_in _ _ _) (HI9.out.1.fin _ _))
  subst hS1
  obtain ⟨gb, go', rfl, hgb, hgc⟩ := row_at ho.2.2 (j := k) (by rw [hLS]; exact hk8)
  have egl : (P.set k L)[k]?.getD 0 = L := by
    have := gI_set P k k L HNPQ.out.2.2.1
    rw [if_pos rfl] at this
    exact this
  rw [egl] at hgc
  by_cases h16 : 16384 < L
  · have HE5 : Hid (joiR last x y = (zeroA, 12)) := by unfold Hid; rw [hjT.out, if_neg (by simp), if_pos h16]
    have HT := hide (I9.put (.slice none 0 0) (.slice none 0 0))
    have p0 := I9.p0
    have p1 := I9.p1
    have f0 := I9.f0
    have f1 := I9.f1
    clear hb9 hbv ho I9 NB9 HCC hjT HJF BWC egl hgb
    go_wp2
    exact bodyPost_ret (v := .tuple #[.agg #[.slice none 0 0, .slice none 0 0], .int .i64 12]) (by simp [results, Try.results79, go_sem, HT.out.1, HT.out.2]) rfl (gives2k_of HE5.out caps_nil (fun _ _ _ => zeroA_in _ _ _) (HI9.out.1.fin _ _))
  have hcap9 : np ≤ cs' := by have := ho.1; rw [hLS] at this; exact this
  have HSHP : Hid (∀ V, Keeps (w.heap.size + 3) wC V → Row 0 V (some ⟨gb, go', none⟩) (P.set k L)) := by
    intro V hK
    have h3 := HI9.out.1.size
    have hwv : w.heap.size + 3 ≤ wv.heap.size := Nat.le_trans (show w.heap.size + 3 ≤ wB.heap.size from by
      have := HIB.out; exact this) hbv.size
    exact ((ho.2.2.low hwv).keeps hK).low (Nat.zero_le _)
  by_cases hV0 : SV = 0
  · subst hV0
    have HE5 : Hid (joiR last x y = (.mk (P.set k L) [], 0)) := by unfold Hid; rw [hjT.out, if_neg (by simp), if_neg h16, if_pos rfl]
    have HT := hide (I9.put (.slice (some ⟨gb, go', none⟩) np cs') (.slice none 0 0))
    have p0 := I9.p0
    have p1 := I9.p1
    have f0 := I9.f0
    have f1 := I9.f1
    have HF : Hid (∀ u v, Gives2K (n + 1) w0 (joiR last x y).1 (joiR last x y).2 w (.returned (.tuple #[.agg #[.slice (some ⟨gb, go', none⟩) np cs', .slice none 0 0], .int .i64 0])) ((wC.setCell ⟨w.heap.size + 2, 0, none⟩ u).setCell ⟨w.heap.size + 2, 1, none⟩ v)) := by
      intro u v
      refine gives2k_of HE5.out ⟨_, _, _, _, _, _, rfl, hcap9, Nat.le_refl _⟩ (fun W hW hK => ?_) (I9.fin u v)
      have K2 := (keeps_three wC w.heap.size u v).trans (hK.mono (show w.heap.size ≤ w.heap.size + 3 by omega))
      exact arIn_mk (x := .mk (P.set k L) []) (HSHP.out W K2) (by simp [Ar.cells]) (Or.inl rfl) hLS rfl
    clear hb9 hbv ho I9 NB9 HCC hjT HJF BWC egl hgb
    go_wp2
    exact bodyPost_ret (v := .tuple #[.agg #[.slice (some ⟨gb, go', none⟩) np cs', .slice none 0 0], .int .i64 0]) (by simp [results, Try.results79, go_sem, HT.out.1, HT.out.2]) rfl (HF.out _ _)
  have hVb : (SV == 0) = false := beq_eq_false_iff_ne.2 hV0
  obtain ⟨tt, one, two, NP, NQ, ht, ht16, sT, sP, hNP, sQ, hNQ, lA, lB, sS, h16'⟩ := HJF.out rfl hV0
  have HE5 : Hid (joiR last x y = (.mk (P.set k L) (joiC X Y P Q k), 0)) := by unfold Hid; rw [hjT.out, if_neg (by simp), if_neg h16, if_neg hV0]
  have HJC : Hid (joiC X Y P Q k = mkCs (tt * one + tt * two) (turnF (cAt (cinL TX x.cells NP)) (cAt (cinL TY y.cells NQ)) one two)) := by
    unfold Hid joiC
    rw [sP, sQ, Int.toNat_natCast, Int.toNat_natCast, sT, Int.toNat_natCast, lA, lB, Nat.mul_div_cancel_left _ ht, Nat.mul_div_cancel_left _ ht, HTL.out.1, HTL.out.2, hXc, hYc]
  rw [HTL.out.1, hXc] at lA
  rw [HTL.out.2, hYc] at lB
  have hp1 : ∀ W, (Instr.sliceAt 22 (.slice (some ⟨gb, go', none⟩) np cs') none (some (.int .i64 (k : Int))) none).run Try.prog W = .ok (.slice (some ⟨gb, go', none⟩) k cs') W := fun W => part_h (P := Try.prog) Try.underlying22 size3 (some ⟨gb, go', none⟩) np cs' k (k : Int) rfl (by omega) W
  have RTK : Row wv.heap.size wC (some ⟨gb, go', none⟩) ((P.set k L).take k) := by
    have := ho.2.2.part 0 cs' k (by rw [hLS]; omega) (by rw [hLS]; exact hcap9)
    rw [List.drop_zero, subA_zero] at this
    exact this
  have lTK : ((P.set k L).take k).length = k := by rw [List.length_take, hLS]; omega
  have CS := size_any ((P.set k L).take k) (some ⟨gb, go', none⟩) cs' wC RTK
  rw [lTK, take_set, sT] at CS
  generalize sizeE (P.take k) = ET at CS
  obtain ⟨hcx, hcy, capx, capy⟩ := HCC.out
  have CC1 : Hid (∀ W, Below wC.heap.size wC W → Calls Try.prog 101 #[.agg #[.slice s1 TX k1, .slice a2 CX c2], .slice (some ⟨pb, po, none⟩) np pc] W fun e w' => (∃ a n' c, e = .returned (.slice a n' c) ∧ CinP n lo w0 w' (cinL TX x.cells NP) a n' c) ∧ Below wC.heap.size wC w' ∧ Below W.heap.size W w') := by
    intro W h
    have := cellsIn_any TX x.cells P s1 a2 (some ⟨pb, po, none⟩) k1 c2 pc NP hcx (NB9.trans (h.mono NB9.size)) (by rw [HSC.out.2.1]; exact capx) (HRP.out.next h) (fun h0 => by rw [← hXc]; exact (atom_one HCHK.out.1 (by rw [HTL.out.1]; exact h0)).2) hX8 sP hNP
    rw [HSC.out.2.1, ← HNPQ.out.1] at this
    refine this.mono ?_
    rintro e w' ⟨hh, hb⟩
    exact ⟨hh, h.trans (hb.mono h.size), hb⟩
  have CC2 : Hid (∀ W, Below wC.heap.size wC W → Calls Try.prog 101 #[.agg #[.slice s2 TY k2, .slice b2 CY d2], .slice (some ⟨qb, qo, none⟩) nq qc] W fun e w' => (∃ a n' c, e = .returned (.slice a n' c) ∧ CinP n lo' w0 w' (cinL TY y.cells NQ) a n' c) ∧ Below wC.heap.size wC w' ∧ Below W.heap.size W w') := by
    intro W h
    have := cellsIn_any TY y.cells Q s2 b2 (some ⟨qb, qo, none⟩) k2 d2 qc NQ hcy (NB9.trans (h.mono NB9.size)) (by rw [HSC.out.2.2.2]; exact capy) (HRQ.out.next h) (fun h0 => by rw [← hYc]; exact (atom_one HCHK.out.2 (by rw [HTL.out.2]; exact h0)).2) hY8 sQ hNQ
    rw [HSC.out.2.2.2, ← HNPQ.out.2.1] at this
    refine this.mono ?_
    rintro e w' ⟨hh, hb⟩
    exact ⟨hh, h.trans (hb.mono h.size), hb⟩
  obtain ⟨NN, hNN⟩ : ∃ z, tt * one + tt * two = z := ⟨_, rfl⟩
  have CT : Hid (∀ W a nA cA b nB cB, Below wC.heap.size wC W → CinP n lo w0 W (cinL TX x.cells NP) a nA cA → CinP n lo' w0 W (cinL TY y.cells NQ) b nB cB → Calls Try.prog 100 #[.slice a nA cA, .slice b nB cB, .int .i64 (tt : Int)] W fun e w' => (∃ g, e = .returned (.slice (some ⟨g, 0, none⟩) NN NN) ∧ ∀ V, Below w0.heap.size w0 V → Keeps W.heap.size w' V → CellsIn n 0 V (joiC X Y P Q k) (some ⟨g, 0, none⟩)) ∧ Below wC.heap.size wC w' ∧ Below W.heap.size W w') := by
    intro W a nA cA b nB cB h hA hB
    rw [HJC.out, ← hNN]
    exact turned_cells h hA hB ht ht16 lA lB h16'
  have hlen : (joiC X Y P Q k).length = NN := by rw [HJC.out, mkCs_len, hNN]
  have HLN := hide (And.intro hlen (And.intro hNN h16'))
  have q0 := I9.q0
  have q1 := I9.q1
  have r0 := I9.r0
  have r1 := I9.r1
  have HD0 : Hid (Below wC.heap.size wC wC.drew) := (Below.refl _ _).drew
  have KS : Hid (∀ W, Below (w.heap.size + 2) wC W → (Below (w.heap.size + 2) wC W ∧ W.cell? ⟨w.heap.size, 0, none⟩ = some (.slice s1 TX k1) ∧ W.cell? ⟨w.heap.size, 1, none⟩ = some (.slice a2 CX c2) ∧ W.cell? ⟨w.heap.size + 1, 0, none⟩ = some (.slice s2 TY k2) ∧ W.cell? ⟨w.heap.size + 1, 1, none⟩ = some (.slice b2 CY d2))) := fun W h => ⟨h, (h.cell (p := ⟨w.heap.size, 0, none⟩) (by show w.heap.size < _; omega)).trans HI9.out.1.q0, (h.cell (p := ⟨w.heap.size, 1, none⟩) (by show w.heap.size < _; omega)).trans HI9.out.1.q1, (h.cell (p := ⟨w.heap.size + 1, 0, none⟩) (by show w.heap.size + 1 < _; omega)).trans HI9.out.1.r0, (h.cell (p := ⟨w.heap.size + 1, 1, none⟩) (by show w.heap.size + 1 < _; omega)).trans HI9.out.1.r1⟩
  have HMN : Hid (∀ W, Below wC.heap.size wC W → Below (w.heap.size + 2) wC W) := fun W h => h.mono (by have := HI9.out.1.size; omega)
  have HSE : Hid (∀ W u v, Below wC.heap.size wC W → Below (w.heap.size + 2) wC ((W.setCell ⟨w.heap.size + 1 + 1, 0, none⟩ u).setCell ⟨w.heap.size + 1 + 1, 1, none⟩ v)) := fun W u v h => ((HMN.out W h).setCell (p := ⟨w.heap.size + 1 + 1, 0, none⟩) (Nat.le_refl _) u).setCell (p := ⟨w.heap.size + 1 + 1, 1, none⟩) (Nat.le_refl _) v
  have HCPS := hide (And.intro hcap9 hLS)
  clear HCC hjT HJF BWC egl hgb ho hb9 hbv I9 NB9 RTK lTK hcx hcy capx capy sT sP sQ lA lB sS h16' hlen hNN HRP HRQ hNP hNQ hXc hYc
  go_wp2_with fail
  refine CS.mono ?_
  clear CS
  rintro e wZ ⟨rfl, rfl⟩
  clear hp1 hgc
  go_wp2
  go_region_held3 (fun W => Below (w.heap.size + 2) wZ W ∧ W.cell? ⟨w.heap.size, 0, none⟩ = some (.slice s1 TX k1) ∧ W.cell? ⟨w.heap.size, 1, none⟩ = some (.slice a2 CX c2) ∧ W.cell? ⟨w.heap.size + 1, 0, none⟩ = some (.slice s2 TY k2) ∧ W.cell? ⟨w.heap.size + 1, 1, none⟩ = some (.slice b2 CY d2))
    (first | with_reducible exact KS.out _ (HMN.out _ HD0.out) | with_reducible exact KS.out _ (HMN.out _ (by with_reducible assumption)) | with_reducible exact KS.out _ (HSE.out _ _ _ (by with_reducible assumption)))
    (first
      | (go_at_call 101; first
          | ((with_reducible refine (CC1.out _ HD0.out).mono ?_); rintro e wx ⟨⟨ax, nx, cx, rfl, hx'⟩, gx, hbx⟩)
          | ((with_reducible refine (CC2.out _ HD0.out).mono ?_); rintro e wy ⟨⟨ay, ny, cy, rfl, hy'⟩, gy, hby⟩)
          | ((with_reducible refine (CC2.out wx gx).mono ?_); rintro e wy ⟨⟨ay, ny, cy, rfl, hy'⟩, gy, hby⟩)
          | ((with_reducible refine (CC1.out wy gy).mono ?_); rintro e wx ⟨⟨ax, nx, cx, rfl, hx'⟩, gx, hbx⟩))
      | (go_at_call 100; first
          | ((with_reducible refine (CT.out wy ax nx cx ay ny cy gy (hx'.next hby) hy').mono ?_); rintro e wt ⟨⟨g, rfl, hcells⟩, gt, hbt⟩; have hsz := gy.size; obtain ⟨p0, p1, f0, f1⟩ : _ ∧ _ ∧ _ ∧ _ := ⟨(HI9.out.1.next gt).p0, (HI9.out.1.next gt).p1, (HI9.out.1.next gt).f0, (HI9.out.1.next gt).f1⟩)
          | ((with_reducible refine (CT.out wx ax nx cx ay ny cy gx hx' (hy'.next hbx)).mono ?_); rintro e wt ⟨⟨g, rfl, hcells⟩, gt, hbt⟩; have hsz := gx.size; obtain ⟨p0, p1, f0, f1⟩ : _ ∧ _ ∧ _ ∧ _ := ⟨(HI9.out.1.next gt).p0, (HI9.out.1.next gt).p1, (HI9.out.1.next gt).f0, (HI9.out.1.next gt).f1⟩)))
  all_goals
    have I10 := HI9.out.1.next gt
    have HT := hide (I10.put (.slice (some ⟨gb, go', none⟩) np cs') (.slice (some ⟨g, 0, none⟩) NN NN))
    have HF : Hid (∀ u v, Gives2K (n + 1) w0 (joiR last x y).1 (joiR last x y).2 w (.returned (.tuple #[.agg #[.slice (some ⟨gb, go', none⟩) np cs', .slice (some ⟨g, 0, none⟩) NN NN], .int .i64 0])) ((wt.setCell ⟨w.heap.size + 2, 0, none⟩ u).setCell ⟨w.heap.size + 2, 1, none⟩ v)) := by
      intro u v
      refine gives2k_of HE5.out ⟨_, _, _, _, _, _, rfl, HCPS.out.1, Nat.le_refl _⟩ (fun W hW hK => ?_) (I10.fin u v)
      have h3 := HI9.out.1.size
      have K2 := (keeps_three wt w.heap.size u v).trans (hK.mono (show w.heap.size ≤ w.heap.size + 3 by omega))
      exact arIn_mk (x := .mk (P.set k L) (joiC X Y P Q k)) (HSHP.out W ((keeps_of_below gt).trans K2)) (by show (joiC X Y P Q k).length ≤ _; rw [HLN.out.1, ← HLN.out.2.1]; have := HLN.out.2.2; omega) (hcells W hW (K2.mono (by omega))) HCPS.out.2 HLN.out.1
    clear I10 hcells gt hbt
    go_wp2
    exact bodyPost_ret (v := .tuple #[.agg #[.slice (some ⟨gb, go', none⟩) np cs', .slice (some ⟨g, 0, none⟩) NN NN], .int .i64 0]) (by simp [results, Try.results79, go_sem, HT.out.1, HT.out.2]) rfl (HF.out _ _)
end Go.Proofs.Ytmjncdhahdpplaa
namespace Go.Proofs.Ytmjncdhahdpplaa
open Go.ChangeShapes Go.WideShapes Go.ChangeAt Go.RowKit
set_option linter.unusedVariables false
set_option maxRecDepth 100000
set_option maxHeartbeats 4000000 in
theorem pieces_46 {n lo lo' : Nat} {x y : Ar} {va vb : Value} {w0 w : World} (hx : ArIn (n + 1) lo w0 x va) (hy : ArIn (n + 1) lo' w0 y vb) (hb0 : Below w0.heap.size w0 w) (hcx : chkA 8 x = 0) (hcy : chkA 8 y = 0) (hcapx : Caps va) (hcapy : Caps vb) :
    Calls Try.prog 46 #[.int .i64 46, va, vb] w fun e w' => Gives2K (n + 1) w0 (joiR false x y).1 (joiR false x y).2 w e w' := by
  obtain ⟨a1, c1, a2, c2, rfl, R, hc⟩ := hx.form
  obtain ⟨b1, d1, b2, d2, rfl, R', hc'⟩ := hy.form
  have I := in3_new w (.slice a1 x.shape.length c1) (.slice a2 x.cells.length c2) (.slice b1 y.shape.length d1) (.slice b2 y.cells.length d2)
  obtain ⟨W3, e3⟩ : ∃ W3, ((w.alloc (.cells #[.slice a1 x.shape.length c1, .slice a2 x.cells.length c2] 25)).alloc (.cells #[.slice b1 y.shape.length d1, .slice b2 y.cells.length d2] 25)).alloc (.cells #[.slice none 0 0, .slice none 0 0] 25) = W3 := ⟨_, rfl⟩
  rw [e3] at I
  have NB : Below w0.heap.size w0 W3 := hb0.trans (I.bel.mono hb0.size)
  have q0 := I.q0
  have q1 := I.q1
  have r0 := I.r0
  have r1 := I.r1
  have HI := hide I
  have HNB := hide NB
  obtain ⟨lx8, cx16⟩ := chk_len hcx
  obtain ⟨ly8, cy16⟩ := chk_len hcy
  have C := joined_any hx hy NB hcx hcy hcapx hcapy false
  obtain ⟨⟨Y, EY⟩, hR⟩ : ∃ p, joiR false x y = p := ⟨_, rfl⟩
  rw [hR] at C ⊢
  simp only at C ⊢
  clear hR R hc R' hc' hx hy hcx hcy hcapx hcapy NB I hb0
  generalize x.shape.length = SX at *
  generalize x.cells.length = CX at *
  generalize y.shape.length = SY at *
  generalize y.cells.length = CY at *
  go_enter Try.func46, Try.ntmps46
  go_wp2_with fail
  clear e3
  refine C.mono ?_
  clear C
  rintro e w2 ⟨⟨v, rfl, hcv, hv⟩, hb2⟩
  obtain ⟨z1, m1, z2, m2, rfl, -, -⟩ := (hv w2 (HNB.out.trans (hb2.mono HNB.out.size)) (Keeps.refl _ _)).form
  have I2 := HI.out.next hb2
  have p0 := I2.p0
  have p1 := I2.p1
  have f0 := I2.f0
  have f1 := I2.f1
  have HT := hide (I2.put (.slice z1 Y.shape.length m1) (.slice z2 Y.cells.length m2))
  have HCV := hide hcv
  have hs3 := HI.out.size
  have HF : Hid (∀ u v W, Below w0.heap.size w0 W → Keeps w.heap.size ((w2.setCell ⟨w.heap.size + 2, 0, none⟩ u).setCell ⟨w.heap.size + 2, 1, none⟩ v) W → ArIn (n + 1) 0 W Y (.agg #[.slice z1 Y.shape.length m1, .slice z2 Y.cells.length m2])) := by
    intro u v W hW hK
    exact hv W hW (((keeps_three w2 w.heap.size u v).trans (hK.mono (show w.heap.size ≤ w.heap.size + 3 by omega))).mono hs3)
  have HFI := hide I2.fin
  clear I2 hv hcv hb2 HI hs3 q0 q1 r0 r1 HNB
  generalize Y.shape.length = YS at *
  generalize Y.cells.length = YC at *
  go_wp2
  exact bodyPost_ret (v := .tuple #[.agg #[.slice z1 YS m1, .slice z2 YC m2], .int .i64 EY]) (by simp [results, Try.results46, go_sem, HT.out.1, HT.out.2]) rfl ⟨⟨_, rfl, HCV.out, HF.out _ _⟩, HFI.out _ _⟩
set_option maxHeartbeats 4000000 in
theorem pieces_47 {n lo lo' : Nat} {x y : Ar} {va vb : Value} {w0 w : World} (hx : ArIn (n + 1) lo w0 x va) (hy : ArIn (n + 1) lo' w0 y vb) (hb0 : Below w0.heap.size w0 w) (hcx : chkA 8 x = 0) (hcy : chkA 8 y = 0) (hcapx : Caps va) (hcapy : Caps vb) :
    Calls Try.prog 46 #[.int .i64 47, va, vb] w fun e w' => Gives2K (n + 1) w0 (joiR true x y).1 (joiR true x y).2 w e w' := by
  obtain ⟨a1, c1, a2, c2, rfl, R, hc⟩ := hx.form
  obtain ⟨b1, d1, b2, d2, rfl, R', hc'⟩ := hy.form
  have I := in3_new w (.slice a1 x.shape.length c1) (.slice a2 x.cells.length c2) (.slice b1 y.shape.length d1) (.slice b2 y.cells.length d2)
  obtain ⟨W3, e3⟩ : ∃ W3, ((w.alloc (.cells #[.slice a1 x.shape.length c1, .slice a2 x.cells.length c2] 25)).alloc (.cells #[.slice b1 y.shape.length d1, .slice b2 y.cells.length d2] 25)).alloc (.cells #[.slice none 0 0, .slice none 0 0] 25) = W3 := ⟨_, rfl⟩
  rw [e3] at I
  have NB : Below w0.heap.size w0 W3 := hb0.trans (I.bel.mono hb0.size)
  have q0 := I.q0
  have q1 := I.q1
  have r0 := I.r0
  have r1 := I.r1
  have HI := hide I
  have HNB := hide NB
  obtain ⟨lx8, cx16⟩ := chk_len hcx
  obtain ⟨ly8, cy16⟩ := chk_len hcy
  have C := joined_any hx hy NB hcx hcy hcapx hcapy true
  obtain ⟨⟨Y, EY⟩, hR⟩ : ∃ p, joiR true x y = p := ⟨_, rfl⟩
  rw [hR] at C ⊢
  simp only at C ⊢
  clear hR R hc R' hc' hx hy hcx hcy hcapx hcapy NB I hb0
  generalize x.shape.length = SX at *
  generalize x.cells.length = CX at *
  generalize y.shape.length = SY at *
  generalize y.cells.length = CY at *
  go_enter Try.func46, Try.ntmps46
  go_wp2_with fail
  clear e3
  refine C.mono ?_
  clear C
  rintro e w2 ⟨⟨v, rfl, hcv, hv⟩, hb2⟩
  obtain ⟨z1, m1, z2, m2, rfl, -, -⟩ := (hv w2 (HNB.out.trans (hb2.mono HNB.out.size)) (Keeps.refl _ _)).form
  have I2 := HI.out.next hb2
  have p0 := I2.p0
  have p1 := I2.p1
  have f0 := I2.f0
  have f1 := I2.f1
  have HT := hide (I2.put (.slice z1 Y.shape.length m1) (.slice z2 Y.cells.length m2))
  have HCV := hide hcv
  have hs3 := HI.out.size
  have HF : Hid (∀ u v W, Below w0.heap.size w0 W → Keeps w.heap.size ((w2.setCell ⟨w.heap.size + 2, 0, none⟩ u).setCell ⟨w.heap.size + 2, 1, none⟩ v) W → ArIn (n + 1) 0 W Y (.agg #[.slice z1 Y.shape.length m1, .slice z2 Y.cells.length m2])) := by
    intro u v W hW hK
    exact hv W hW (((keeps_three w2 w.heap.size u v).trans (hK.mono (show w.heap.size ≤ w.heap.size + 3 by omega))).mono hs3)
  have HFI := hide I2.fin
  clear I2 hv hcv hb2 HI hs3 q0 q1 r0 r1 HNB
  generalize Y.shape.length = YS at *
  generalize Y.cells.length = YC at *
  go_wp2
  exact bodyPost_ret (v := .tuple #[.agg #[.slice z1 YS m1, .slice z2 YC m2], .int .i64 EY]) (by simp [results, Try.results46, go_sem, HT.out.1, HT.out.2]) rfl ⟨⟨_, rfl, HCV.out, HF.out _ _⟩, HFI.out _ _⟩
set_option maxHeartbeats 4000000 in
theorem pieces_none {n lo lo' : Nat} {op : Int} {x y : Ar} {va vb : Value} {w0 w : World} (hx : ArIn (n + 1) lo w0 x va) (hy : ArIn (n + 1) lo' w0 y vb) (hop : ¬ (42 ≤ op ∧ op ≤ 47) ∧ ¬ (50 ≤ op ∧ op ≤ 53)) :
    Calls Try.prog 46 #[.int .i64 op, va, vb] w fun e w' => Gives2K (n + 1) w0 zeroA 1 w e w' := by
  obtain ⟨a1, c1, a2, c2, rfl, R, hc⟩ := hx.form
  obtain ⟨b1, d1, b2, d2, rfl, R', hc'⟩ := hy.form
  have I := in3_new w (.slice a1 x.shape.length c1) (.slice a2 x.cells.length c2) (.slice b1 y.shape.length d1) (.slice b2 y.cells.length d2)
  obtain ⟨W3, e3⟩ : ∃ W3, ((w.alloc (.cells #[.slice a1 x.shape.length c1, .slice a2 x.cells.length c2] 25)).alloc (.cells #[.slice b1 y.shape.length d1, .slice b2 y.cells.length d2] 25)).alloc (.cells #[.slice none 0 0, .slice none 0 0] 25) = W3 := ⟨_, rfl⟩
  rw [e3] at I
  have HI := hide I
  have p0 := I.p0
  have p1 := I.p1
  have f0 := I.f0
  have f1 := I.f1
  have HT := hide (I.put (.slice none 0 0) (.slice none 0 0))
  have o1 : (op == 42) = false := beq_eq_false_iff_ne.2 (by omega)
  have o2 : (op == 43) = false := beq_eq_false_iff_ne.2 (by omega)
  have o3 : (op == 44) = false := beq_eq_false_iff_ne.2 (by omega)
  have o4 : (op == 45) = false := beq_eq_false_iff_ne.2 (by omega)
  have o5 : (op == 46) = false := beq_eq_false_iff_ne.2 (by omega)
  have o6 : (op == 47) = false := beq_eq_false_iff_ne.2 (by omega)
  have o7 : (op == 50) = false := beq_eq_false_iff_ne.2 (by omega)
  have o8 : (op == 51) = false := beq_eq_false_iff_ne.2 (by omega)
  have o9 : (op == 52) = false := beq_eq_false_iff_ne.2 (by omega)
  have o10 : (op == 53) = false := beq_eq_false_iff_ne.2 (by omega)
  clear hx hy I R R' hc hc' hop
  generalize x.shape.length = SX at *
  generalize x.cells.length = CX at *
  generalize y.shape.length = SY at *
  generalize y.cells.length = CY at *
  go_enter Try.func46, Try.ntmps46
  go_wp2
  exact bodyPost_ret (v := .tuple #[.agg #[.slice none 0 0, .slice none 0 0], .int .i64 1]) (by simp [results, Try.results46, go_sem, HT.out.1, HT.out.2]) rfl ⟨⟨_, rfl, caps_nil, fun _ _ _ => zeroA_in _ _ _⟩, HI.out.fin _ _⟩
theorem joi_chk {x y : Ar} (hx : chkA 8 x = 0) (hy : chkA 8 y = 0) (last : Bool) : (¬ (joiR last x y).2 = 0 → (joiR last x y).1 = zeroA) ∧ ((joiR last x y).2 = 0 → chkA 8 (joiR last x y).1 = 0) := by
  have h : chkA 8 (joiS x y).1 = 0 ∧ chkA 8 (joiS x y).2 = 0 ∧ 0 < max (joiS x y).1.shape.length (joiS x y).2.shape.length := by
    unfold joiS
    by_cases h : x.shape.length = 0 ∧ y.shape.length = 0
    · rw [if_pos h]
      have h1 := lst_facts hx
      have h2 := lst_facts hy
      exact ⟨h1.1, h2.1, by have := h1.2.2; show 0 < max (lstA x).shape.length _; omega⟩
    · rw [if_neg h]
      exact ⟨hx, hy, by show 0 < max x.shape.length y.shape.length; omega⟩
  unfold joiR
  exact joiT_chk h.1 h.2.1 (by have := h.2.2; unfold joiK; split <;> omega)
theorem dy_46 {n lo lo' : Nat} {x y : Ar} {va vb : Value} {w : World} (hx : ArIn (n + 1) lo w x va) (hy : ArIn (n + 1) lo' w y vb) (hcx : chkA 8 x = 0) (hcy : chkA 8 y = 0) (kx : Caps va) (ky : Caps vb) : Calls Try.prog 19 #[.int .i64 46, va, vb] w fun e w' => GivesD (n + 1) (joiR false x y).1 (joiR false x y).2 w e w' :=
  dy_of hx hy hcx hcy (fun W hW => pieces_46 hx hy hW hcx hcy kx ky) (joi_chk hcx hcy false).1 (joi_chk hcx hcy false).2
theorem dy_47 {n lo lo' : Nat} {x y : Ar} {va vb : Value} {w : World} (hx : ArIn (n + 1) lo w x va) (hy : ArIn (n + 1) lo' w y vb) (hcx : chkA 8 x = 0) (hcy : chkA 8 y = 0) (kx : Caps va) (ky : Caps vb) : Calls Try.prog 19 #[.int .i64 47, va, vb] w fun e w' => GivesD (n + 1) (joiR true x y).1 (joiR true x y).2 w e w' :=
  dy_of hx hy hcx hcy (fun W hW => pieces_47 hx hy hW hcx hcy kx ky) (joi_chk hcx hcy true).1 (joi_chk hcx hcy true).2
/-- Dy's answer for whatever function, of arrays that may be. -/
def pickR (op : Int) (x y : Ar) : Ar × Int :=
  if op = 42 then takR x (lstA y) else if op = 43 then drpR x (lstA y) else if op = 44 then rotR x y 0 else if op = 45 then rotR x y (y.shape.length - 1) else if op = 46 then joiR false x y else if op = 47 then joiR true x y else
  if op = 50 then repR x (lstA y) 0 else if op = 51 then repR x (lstA y) ((lstA y).shape.length - 1) else if op = 52 then lookR x y else if op = 53 then lookR y x else (zeroA, 1)
theorem pick_any {op : Int} {n lo lo' : Nat} {x y : Ar} {va vb : Value} {w : World} (hx : ArIn (n + 1) lo w x va) (hy : ArIn (n + 1) lo' w y vb) (hcx : chkA 8 x = 0) (hcy : chkA 8 y = 0) (kx : Caps va) (ky : Caps vb) (hI : I64 (numR x).1) : Calls Try.prog 19 #[.int .i64 op, va, vb] w fun e w' => GivesD (n + 1) (pickR op x y).1 (pickR op x y).2 w e w' := by
  unfold pickR
  by_cases h : op = 42
  · subst h; rw [if_pos rfl]; exact dy_42 hx hy hcx hcy kx ky
  rw [if_neg h]
  by_cases h : op = 43
  · subst h; rw [if_pos rfl]; exact dy_43 hx hy hcx hcy kx ky hI
  rw [if_neg h]
  by_cases h : op = 44
  · subst h; rw [if_pos rfl]; exact dy_44 hx hy hcx hcy kx ky
  rw [if_neg h]
  by_cases h : op = 45
  · subst h; rw [if_pos rfl]; exact dy_45 hx hy hcx hcy kx ky
  rw [if_neg h]
  by_cases h : op = 46
  · subst h; rw [if_pos rfl]; exact dy_46 hx hy hcx hcy kx ky
  rw [if_neg h]
  by_cases h : op = 47
  · subst h; rw [if_pos rfl]; exact dy_47 hx hy hcx hcy kx ky
  rw [if_neg h]
  by_cases h : op = 50
  · subst h; rw [if_pos rfl]; exact dy_50 hx hy hcx hcy kx ky
  rw [if_neg h]
  by_cases h : op = 51
  · subst h; rw [if_pos rfl]; exact dy_51 hx hy hcx hcy kx ky
  rw [if_neg h]
  by_cases h : op = 52
  · subst h; rw [if_pos rfl]; exact dy_52 hx hy hcx hcy kx ky
  rw [if_neg h]
  by_cases h : op = 53
  · subst h; rw [if_pos rfl]; exact dy_53 hx hy hcx hcy kx ky
  rw [if_neg h]
  exact dy_of (R := (zeroA, 1)) hx hy hcx hcy (fun W hW => pieces_none hx hy (by omega)) (fun _ => rfl) (fun h => absurd h (by decide))
theorem pick_chk {op : Int} {x y : Ar} (hx : chkA 8 x = 0) (hy : chkA 8 y = 0) : (pickR op x y).2 = 0 → chkA 8 (pickR op x y).1 = 0 := by
  unfold pickR
  have h0 := (lst_facts hy).2.2
  by_cases h : op = 42
  · rw [if_pos h]; exact (tak_chk (lst_facts hy).1 (lst_facts hy).2.2).2
  rw [if_neg h]
  by_cases h : op = 43
  · rw [if_pos h]; exact (drp_chk (lst_facts hy).1 (lst_facts hy).2.2).2
  rw [if_neg h]
  by_cases h : op = 44
  · rw [if_pos h]; exact (rot_chk hy 0 (fun h => h)).2
  rw [if_neg h]
  by_cases h : op = 45
  · rw [if_pos h]; exact (rot_chk hy _ (fun h => by omega)).2
  rw [if_neg h]
  by_cases h : op = 46
  · rw [if_pos h]; exact (joi_chk hx hy false).2
  rw [if_neg h]
  by_cases h : op = 47
  · rw [if_pos h]; exact (joi_chk hx hy true).2
  rw [if_neg h]
  by_cases h : op = 50
  · rw [if_pos h]; exact (rep_chk (lst_facts hy).1 (lst_facts hy).2.2).2
  rw [if_neg h]
  by_cases h : op = 51
  · rw [if_pos h]; exact (rep_chk (lst_facts hy).1 (by omega)).2
  rw [if_neg h]
  by_cases h : op = 52
  · rw [if_pos h]; exact (look_chk hx hy).2
  rw [if_neg h]
  by_cases h : op = 53
  · rw [if_pos h]; exact (look_chk hy hx).2
  rw [if_neg h]
  exact fun h => absurd h (by decide)
end Go.Proofs.Ytmjncdhahdpplaa
namespace Go.Proofs.Ytmjncdhahdpplaa
open Go.ChangeShapes Go.WideShapes Go.ChangeAt Go.RowKit
set_option linter.unusedVariables false
set_option maxRecDepth 100000
/-- What is known of an array that has an item with a cell. -/
theorem parts_facts {A : Ar} (hA : chkA 8 A = 0) (hS : 0 < A.shape.length) {D : Nat} (hD : gI A.shape 0 = (D : Int)) (h0 : 0 < A.cells.length) : ∃ W : Nat, 0 < W ∧ 0 < D ∧ sizeV (A.shape.drop 1) = (W : Int) ∧ A.cells.length = D * W ∧ ∀ L : Nat, L ≤ D → sizeV (A.shape.set 0 (L : Int)) = ((L * W : Nat) : Int) := by
  obtain ⟨d, t, hdt⟩ : ∃ d t, A.shape = d :: t := by
    cases hsh : A.shape with
    | nil => rw [hsh] at hS; simp at hS
    | cons d t => exact ⟨d, t, rfl⟩
  obtain ⟨hpos, hprod⟩ := (chk_axes hA).2.1 h0
  have hd : d = (D : Int) := by rw [← hD, hdt]; rfl
  rw [hdt] at hpos hprod
  have pt := prodL_pos (l := t) fun z hz => hpos z (List.mem_cons.2 (Or.inr hz))
  have hD0 := hpos d List.mem_cons_self
  obtain ⟨W, hW⟩ : ∃ W : Nat, prodL t = (W : Int) := ⟨(prodL t).toNat, by omega⟩
  have e1 : prodL (d :: t) = d * prodL t := rfl
  rw [e1, hd, hW, ← Int.natCast_mul] at hprod
  have hlen := (chk_len hA)
  have hE := ((chkA_iff 8 A).1 hA).1
  have hWle : W ≤ 16384 := by
    have : 1 * W ≤ D * W := Nat.mul_le_mul_right _ (by omega)
    omega
  have ft := fine_mk (l := t) (by have := hlen.1; rw [hdt] at this; simp at this; omega) (fun z hz => by have := hpos z (List.mem_cons.2 (Or.inr hz)); omega) (Or.inr (by rw [hW]; omega))
  refine ⟨W, by omega, by omega, by rw [hdt]; show sizeV t = _; rw [ft.2, hW], by omega, fun L hL => ?_⟩
  have hs := drop_size hA hS hD hL
  have := sizeV_prod hs
  rw [hdt, List.set_cons_zero] at this
  rw [hdt, List.set_cons_zero, this]
  show (L : Int) * prodL t = _
  rw [hW, Int.natCast_mul]
theorem parts_take {A : Ar} (hA : chkA 8 A = 0) (hS : 0 < A.shape.length) {D k : Nat} (hD : gI A.shape 0 = (D : Int)) (hk : k ≤ D) : takR (atomA (k : Int)) A = (.mk (A.shape.set 0 (k : Int)) (mkCs (sizeV (A.shape.set 0 (k : Int))).toNat fun p => cAt A.cells p), 0) := by
  have hDb := (chk_axes hA).1 (gI A.shape 0) (getD_mem hS)
  rw [hD] at hDb
  have hs : sizeE (A.shape.set 0 (k : Int)) = 0 := drop_size hA hS hD hk
  have hle : (sizeV (A.shape.set 0 (k : Int))).toNat ≤ A.cells.length := by
    by_cases h0 : 0 < A.cells.length
    · obtain ⟨W, hW0, hD0, -, hc, hsv⟩ := parts_facts hA hS hD h0
      rw [hsv k hk, Int.toNat_natCast, hc]
      exact Nat.mul_le_mul_right _ hk
    · have hz := (chk_axes hA).2.2 (by omega)
      have : sizeV (A.shape.set 0 (k : Int)) = 0 := by
        obtain ⟨-, -, hc⟩ := fine_cases hs
        rcases hc with ⟨-, h⟩ | ⟨hpos, -, hv⟩
        · exact h
        · obtain ⟨z, hz1, hz2⟩ := hz
          rcases mem_set_other (v := (k : Int)) hz1 hS with h | h
          · have := hpos z h; omega
          · have hkp := hpos _ (mem_set_self' hS (k : Int))
            rw [hD] at h; omega
      omega
  unfold takR
  rw [numR_atom, if_neg (by simp), if_neg (by show ¬ ((16384 : Int) < (k : Int) ∨ (k : Int) < -16384); omega)]
  have hna : (((k : Int).natAbs : Nat) : Int) = (k : Int) := by omega
  simp only [hna]
  rw [if_neg (by simpa using hs), if_neg (by intro h; omega), if_neg (by omega), if_neg (by omega)]
  congr 2
  refine cs_ext (by rw [mkCs_len, mkCs_len]) fun i hi => ?_
  rw [mkCs_len] at hi
  rw [mkCs_at _ _ _ hi, mkCs_at _ _ _ hi]
  unfold layC
  rw [if_pos (by
    have : Nat.min A.cells.length (sizeV (A.shape.set 0 (k : Int))).toNat = (sizeV (A.shape.set 0 (k : Int))).toNat := Nat.min_eq_right hle
    rw [this]; omega)]
  congr 1; omega
theorem parts_drop {A : Ar} (hA : chkA 8 A = 0) (hS : 0 < A.shape.length) {D k : Nat} (hD : gI A.shape 0 = (D : Int)) (hk : k ≤ D) : drpR (atomA (k : Int)) A = (alongA A 0 (fromL k (D - k)), 0) := by
  unfold drpR
  rw [numR_atom, if_neg (by simp), hD, Int.toNat_natCast]
  have h1 : drpF (k : Int) D = k := by unfold drpF; rw [if_neg (by omega)]; omega
  have h2 : drpN (k : Int) D = D - k := by unfold drpN; rw [if_neg (by omega)]; omega
  show (alongA A 0 (fromL (drpF (k : Int) D) (drpN (k : Int) D)), (0 : Int)) = _
  rw [h1, h2]
theorem parts_join {A T U : Ar} (hA : chkA 8 A = 0) (hS : 0 < A.shape.length) {D k : Nat} (hD : gI A.shape 0 = (D : Int)) (hk : k ≤ D) (hT : takR (atomA (k : Int)) A = (T, 0)) (hU : drpR (atomA (k : Int)) A = (U, 0)) : joiR false T U = (A, 0) := by
  have hcT : chkA 8 T = 0 := by have := (tak_chk (x := atomA (k : Int)) hA hS).2; rw [hT] at this; exact this rfl
  have hcU : chkA 8 U = 0 := by have := (drp_chk (x := atomA (k : Int)) hA hS).2; rw [hU] at this; exact this rfl
  rw [parts_take hA hS hD hk] at hT
  rw [parts_drop hA hS hD hk] at hU
  simp only [Prod.mk.injEq, and_true] at hT hU
  have sT : T.shape = A.shape.set 0 (k : Int) := by rw [← hT]; rfl
  have sU : U.shape = A.shape.set 0 ((D - k : Nat) : Int) := by rw [← hU]; unfold alongA; rw [fromL_len]; rfl
  have hDb := (chk_axes hA).1 (gI A.shape 0) (getD_mem hS)
  rw [hD] at hDb
  have lT : T.shape.length = A.shape.length := by rw [sT, List.length_set]
  have lU : U.shape.length = A.shape.length := by rw [sU, List.length_set]
  have hJS : joiS T U = (T, U) := by unfold joiS; rw [if_neg (by omega)]
  unfold joiR
  rw [hJS]
  have hJK : joiK false (T, U).1 (T, U).2 = 0 := rfl
  rw [hJK]
  have hb1 : besR T.shape U.shape 0 = (T.shape, 0) := by unfold besR; rw [if_pos (by omega)]
  have hb2 : besR U.shape T.shape 0 = (U.shape, 0) := by unfold besR; rw [if_pos (by omega)]
  have hff : firstUp (fitF T.shape U.shape 0) T.shape.length = 0 := by
    have : ∀ m, m ≤ T.shape.length → firstUp (fitF T.shape U.shape 0) m = 0 := by
      intro m
      induction m with
      | zero => intro _; rfl
      | succ m ih =>
        intro hm
        rw [firstUp_step (ih (by omega))]
        unfold fitF
        rw [if_neg]
        rintro ⟨h1, h2⟩
        refine h2 ?_
        rw [sT, sU, gI_set _ _ _ _ hS, gI_set _ _ _ _ hS, if_neg h1, if_neg h1]
    exact this _ (Nat.le_refl _)
  have hF : fitR T.shape U.shape 0 = (T.shape, U.shape, 0) := by
    unfold fitR
    rw [hb1, hb2, if_neg (by simp), if_neg (by simp), if_neg (by simpa using hff)]
  show joiT T U 0 (fitR T.shape U.shape 0) = _
  rw [hF]
  have g1 : gI T.shape 0 = (k : Int) := by rw [sT, gI_set _ _ _ _ hS, if_pos rfl]
  have g2 : gI U.shape 0 = ((D - k : Nat) : Int) := by rw [sU, gI_set _ _ _ _ hS, if_pos rfl]
  have hL : gI T.shape 0 + gI U.shape 0 = (D : Int) := by rw [g1, g2]; omega
  have hsh : T.shape.set 0 (gI T.shape 0 + gI U.shape 0) = A.shape := by rw [hL, sT, List.set_set, ← hD]; exact set_gI _ _ hS
  obtain ⟨gE, gV, -, -⟩ := (chkA_iff 8 A).1 hA
  unfold joiT
  simp only
  rw [if_neg (by simp)]
  have hFF := fun h1 h2 => joi_facts hcT hcU hF (by rw [lT]; exact hS) h1 h2
  rw [hsh, hL] at *
  rw [if_neg (by simpa using gE), if_neg (by omega)]
  by_cases h0 : sizeV A.shape = 0
  · rw [if_pos h0]
    have : A.cells = [] := List.eq_nil_of_length_eq_zero (by omega)
    rw [← this, Ar.eta]
  rw [if_neg h0]
  obtain ⟨t, one, two, NP, NQ, ht, ht16, qT, qP, -, qQ, -, lA, lB, qS, h16⟩ := hFF gE h0
  clear hFF
  have ht1 : t = 1 := by
    have : sizeV (T.shape.take 0) = 1 := by rw [List.take_zero]; decide
    omega
  subst ht1
  have hcl : 0 < A.cells.length := by omega
  obtain ⟨W, hW0, hD0, hw, hc, hsv⟩ := parts_facts hA hS hD hcl
  have c1 : cinL T.shape.length T.cells NP = T.cells := by unfold cinL; rw [if_pos (by omega)]
  have c2 : cinL U.shape.length U.cells NQ = U.cells := by unfold cinL; rw [if_pos (by omega)]
  rw [c1] at lA
  rw [c2] at lB
  have tC : T.cells = mkCs (k * W) (fun p => cAt A.cells p) := by
    rw [← hT]
    show mkCs _ _ = _
    rw [hsv k hk, Int.toNat_natCast]
  have uC : U.cells = mkCs ((D - k) * W) (fun p => cAt A.cells (k * W + p)) := by
    rw [← hU]
    show mkCs _ _ = _
    rw [fromL_len, hsv (D - k) (by omega), Int.toNat_natCast, hD, hw, Int.toNat_natCast, Int.toNat_natCast]
    refine cs_ext (by rw [mkCs_len, mkCs_len]) fun i hi => ?_
    rw [mkCs_len] at hi
    rw [mkCs_at _ _ _ hi, mkCs_at _ _ _ hi]
    have hq : i / W < D - k := by rw [Nat.div_lt_iff_lt_mul hW0]; exact hi
    unfold alongQ
    simp only [Nat.div_eq_of_lt hq, Nat.mod_eq_of_lt hq, fromL_at k (D - k) (i / W) hq, Int.toNat_natCast, Nat.zero_mul, Nat.zero_add, Nat.add_mul]
    have := Nat.div_add_mod i W
    rw [Nat.mul_comm] at this
    congr 1; omega
  have e1 : one = k * W := by rw [tC, mkCs_len, Nat.one_mul] at lA; exact lA.symm
  have e2 : two = (D - k) * W := by rw [uC, mkCs_len, Nat.one_mul] at lB; exact lB.symm
  have hDW : k * W + (D - k) * W = D * W := by rw [← Nat.add_mul]; congr 1; omega
  have hJC : joiC T U T.shape U.shape 0 = A.cells := by
    unfold joiC
    rw [qP, qQ, Int.toNat_natCast, Int.toNat_natCast, c1, c2, qT, lA, lB]
    simp only [Nat.one_mul, Int.toNat_natCast, Nat.div_one]
    refine cs_ext (by rw [mkCs_len, e1, e2, hDW, hc]) fun i hi => ?_
    rw [mkCs_len] at hi
    rw [mkCs_at _ _ _ hi]
    unfold turnF
    have hmod : i % (one + two) = i := Nat.mod_eq_of_lt hi
    have hdiv : i / (one + two) = 0 := Nat.div_eq_of_lt hi
    rw [hmod, hdiv, Nat.zero_mul, Nat.zero_mul, Nat.zero_add, Nat.zero_add]
    by_cases h : i < one
    · rw [if_pos h, tC, mkCs_at _ _ _ (by omega)]
    · rw [if_neg h, uC, mkCs_at _ _ _ (by omega), e1]
      congr 1; omega
  rw [hJC, Ar.eta]
end Go.Proofs.Ytmjncdhahdpplaa
