/-
  Merging in place (SymMerge), as plain mathematics. No program's function is named.
  The contract of the library's symMergeCmpFunc, at numbers, for the two comparisons that layer 7 hands over.
  Sorting by blocks, as plain mathematics. No program's function is named.
  The contracts of the library's stableCmpFunc and SortStableFunc, at numbers, for the two comparisons that layer 7 hands over.
-/
import Derived.Test.YtimkcpbgnoekcaaM2
import Derived.Test.YtimkcpbgnoekcaaChecked
import GoSem.Claim
import GoSem.ClaimJoined
import GoSem.ClaimMapViews
import Derived.JoinedTies
import Derived.KernelRfl
import Derived.WalkKit
import Derived.ProofKit
import Derived.Below
import Derived.Deep.OwnRows
import Derived.Deep.QuietTactic
import Derived.BigQuiet
import Derived.Deep.RegionWith
import Derived.Laws.MakeOwn
import Derived.Deep.RegionHeld3
import Derived.Laws.IdiomCopy
import Derived.Deep.Cut
import Derived.Deep.LoopGhost
import Derived.OpenShut
import Derived.ChangeOld
import Derived.SizedLaws
import Derived.Deep.Slices
import Derived.Deep.Strs
import Derived.Laws.AppendOwn
import Derived.BigFrame
import Derived.Deep.CutRange
import Derived.Deep.RegionLaw
import Derived.Laws.OwnMore
import Derived.Lib.SliceRun
import Derived.Laws.CopyOwn
import Derived.Lib.Mul64
import Derived.Lib.Overlaps
import Derived.Laws.EntriesVeiled
namespace Go.Proofs.Ytimkcpbgnoekcaa
set_option linter.unusedVariables false
set_option maxRecDepth 100000
theorem rot_lo (f : Nat → Int) {s m E x : Nat} (h : x < s) : rotF f s m E x = f x := by unfold rotF; rw [if_neg (by omega), if_neg (by omega)]
theorem rot_hi (f : Nat → Int) {s m E x : Nat} (hm : s ≤ m) (h2 : m ≤ E) (h : E ≤ x) : rotF f s m E x = f x := by unfold rotF; rw [if_neg (by omega), if_neg (by omega)]
theorem rot_1 (f : Nat → Int) {s m E x : Nat} (h1 : s ≤ x) (h2 : x < s + (E - m)) : rotF f s m E x = f (x + (m - s)) := by unfold rotF; rw [if_pos ⟨h1, h2⟩]
theorem rot_2 (f : Nat → Int) {s m E x : Nat} (h1 : s + (E - m) ≤ x) (h2 : x < E) : rotF f s m E x = f (x - (E - m)) := by unfold rotF; rw [if_neg (by omega), if_pos ⟨h1, h2⟩]
theorem rot_triv (f : Nat → Int) {s m E : Nat} (h1 : s ≤ m) (h2 : m ≤ E) (h : s = m ∨ m = E) : rotF f s m E = f := by
  funext x
  unfold rotF
  (repeat' split) <;> first | rfl | (exfalso; omega) | (congr 1; omega)
/-- Two runs in order, each of the first one's numbers below each of the second one's. -/
structure Runs (n : Nat) (c : Int → Int → Int) (f : Nat → Int) (a m e : Nat) : Prop where
  am : a ≤ m
  me : m ≤ e
  en : e ≤ n
  rng : Rng n f
  s1 : Srt c f a m
  s2 : Srt c f m e
  lr : ∀ i j, a ≤ i → i < m → m ≤ j → j < e → f i < f j
theorem Runs.lt_iff {n : Nat} {c : Int → Int → Int} {f : Nat → Int} {a m e : Nat} (P : Runs n c f a m e) {i j : Nat} (h1 : a ≤ i) (h2 : i < m) (h3 : m ≤ j) (h4 : j < e) : c (f j) (f i) < 0 ↔ ltc c (f j) (f i) := ltc_of (P.lr i j h1 h2 h3 h4)
theorem Runs.tot {n : Nat} {c : Int → Int → Int} (O : OrdN n c) {f : Nat → Int} {a m e : Nat} (P : Runs n c f a m e) {i j : Nat} (h1 : a ≤ i) (h2 : i < m) (h3 : m ≤ j) (h4 : j < e) (h : ¬ ltc c (f j) (f i)) : ltc c (f i) (f j) := by
  have l := P.lr i j h1 h2 h3 h4
  have e2 := P.en
  have r1 := P.rng i (by omega)
  have r2 := P.rng j (by omega)
  exact O.tot _ _ r2.1 r2.2 r1.1 r1.2 (by omega) h
theorem Runs.tr {n : Nat} {c : Int → Int → Int} (O : OrdN n c) {f : Nat → Int} (R : Rng n f) {i j k : Nat} (hi : i < n) (hj : j < n) (hk : k < n) (h1 : ltc c (f i) (f j)) (h2 : ltc c (f j) (f k)) : ltc c (f i) (f k) := by
  have ri := R i hi
  have rj := R j hj
  have rk := R k hk
  exact O.tr _ _ _ ri.1 ri.2 rj.1 rj.2 rk.1 rk.2 h1 h2
/-- Where the two runs are parted. -/
structure Part (n : Nat) (c : Int → Int → Int) (f : Nat → Int) (a m e D lo hi PP : Nat) : Prop where
  alo : a ≤ lo
  him : hi ≤ m
  hiD : hi ≤ D
  pp : PP + 1 = D + m
  dom : ∀ x, lo ≤ x → x < hi → m ≤ PP - x ∧ PP - x < e ∧ x ≤ PP
  atlo : lo = a ∨ PP + 1 - lo = e
  athi : hi = m ∨ PP + 1 - hi = m
  lohi : lo ≤ hi
theorem part_of {n : Nat} {c : Int → Int → Int} {f : Nat → Int} {a m e D lo hi PP : Nat} (ham : a < m) (hme : m < e) (hD : D = (a + e) / 2) (hPP : PP + 1 = D + m) (h : (D < m ∧ lo + e = D + m ∧ hi = D) ∨ (m ≤ D ∧ lo = a ∧ hi = m)) : Part n c f a m e D lo hi PP := by
  refine ⟨by omega, by omega, by omega, hPP, fun x h1 h2 => ⟨by omega, by omega, by omega⟩, by omega, by omega, by omega⟩
theorem step_lo {n : Nat} {c : Int → Int → Int} (O : OrdN n c) {f : Nat → Int} {a m e D lo hi PP C : Nat} (P : Runs n c f a m e) (Q : Part n c f a m e D lo hi PP) (h1 : lo ≤ C) (h2 : C < hi) (h : ltc c (f C) (f (PP - C))) : ∀ x, lo ≤ x → x < C + 1 → ltc c (f x) (f (PP - x)) := by
  intro x hx hx2
  by_cases hxe : x = C
  · rw [hxe]; exact h
  · have d1 := Q.dom x hx (by omega)
    have d2 := Q.dom C h1 h2
    have en := P.en
    have him := Q.him
    have alo := Q.alo
    have t1 := P.s1 x C (by omega) (by omega) (by omega)
    have t2 := P.s2 (PP - C) (PP - x) (by omega) (by omega) (by omega)
    exact Runs.tr O P.rng (by omega) (by omega) (by omega) (Runs.tr O P.rng (by omega) (by omega) (by omega) t1 h) t2
theorem step_hi {n : Nat} {c : Int → Int → Int} (O : OrdN n c) {f : Nat → Int} {a m e D lo hi PP C : Nat} (P : Runs n c f a m e) (Q : Part n c f a m e D lo hi PP) (h1 : lo ≤ C) (h2 : C < hi) (h : ltc c (f (PP - C)) (f C)) : ∀ x, C ≤ x → x < hi → ltc c (f (PP - x)) (f x) := by
  intro x hx hx2
  by_cases hxe : x = C
  · rw [hxe]; exact h
  · have d1 := Q.dom x (by omega) hx2
    have d2 := Q.dom C h1 h2
    have en := P.en
    have him := Q.him
    have alo := Q.alo
    have t1 := P.s1 C x (by omega) (by omega) (by omega)
    have t2 := P.s2 (PP - x) (PP - C) (by omega) (by omega) (by omega)
    exact Runs.tr O P.rng (by omega) (by omega) (by omega) t2 (Runs.tr O P.rng (by omega) (by omega) (by omega) h t1)
/-- What stands where behind the rotation. -/
theorem sym_split {n : Nat} {c : Int → Int → Int} (O : OrdN n c) {f : Nat → Int} {a m e D lo hi PP s E : Nat} (P : Runs n c f a m e) (Q : Part n c f a m e D lo hi PP) (haD : a ≤ D) (hDe : D ≤ e) (hs1 : lo ≤ s) (hs2 : s ≤ hi) (hE : s + E = D + m) (h1 : ∀ x, lo ≤ x → x < s → ltc c (f x) (f (PP - x))) (h2 : ∀ x, s ≤ x → x < hi → ltc c (f (PP - x)) (f x)) :
    a ≤ s ∧ s ≤ D ∧ D ≤ E ∧ E ≤ e ∧ Runs n c (rotF f s m E) a s D ∧ Runs n c (rotF f s m E) D E e ∧ ∀ i j, a ≤ i → i < D → D ≤ j → j < e → ltc c (rotF f s m E i) (rotF f s m E j) := by
  have alo := Q.alo
  have him := Q.him
  have hiD := Q.hiD
  have pp := Q.pp
  have en := P.en
  have lohi := Q.lohi
  have am := P.am
  have me := P.me
  have hsm : s ≤ m := by omega
  have hmE : m ≤ E := by omega
  have hEe : E ≤ e := by
    rcases Q.atlo with h | h
    · by_cases hh : lo < hi
      · have := Q.dom lo (Nat.le_refl _) hh
        omega
      · rcases Q.athi with g | g <;> omega
    · omega
  have hR : Rng n (rotF f s m E) := (rot_mv f hsm hmE).rng (by omega) P.rng
  have v1 : ∀ x, x < s → rotF f s m E x = f x := fun x hx => rot_lo f hx
  have v2 : ∀ x, s ≤ x → x < D → rotF f s m E x = f (x + (m - s)) := fun x g1 g2 => rot_1 f g1 (by omega)
  have v3 : ∀ x, D ≤ x → x < E → rotF f s m E x = f (x - (E - m)) := fun x g1 g2 => rot_2 f (by omega) g2
  have v4 : ∀ x, E ≤ x → rotF f s m E x = f x := fun x g => rot_hi f hsm hmE g
  refine ⟨by omega, by omega, by omega, hEe, ⟨by omega, by omega, by omega, hR, ?_, ?_, ?_⟩, ⟨by omega, by omega, by omega, hR, ?_, ?_, ?_⟩, ?_⟩
  · intro i j hi' hij hj; rw [v1 i (by omega), v1 j hj]; exact P.s1 i j hi' hij (by omega)
  · intro i j hi' hij hj; rw [v2 i hi' (by omega), v2 j (by omega) hj]; exact P.s2 _ _ (by omega) (by omega) (by omega)
  · intro i j b1 b2 b3 b4; rw [v1 i b2, v2 j b3 b4]; exact P.lr _ _ b1 (by omega) (by omega) (by omega)
  · intro i j hi' hij hj; rw [v3 i hi' (by omega), v3 j (by omega) hj]; exact P.s1 _ _ (by omega) (by omega) (by omega)
  · intro i j hi' hij hj; rw [v4 i hi', v4 j (by omega)]; exact P.s2 i j (by omega) hij hj
  · intro i j b1 b2 b3 b4; rw [v3 i b1 b2, v4 j b3]; exact P.lr _ _ (by omega) (by omega) (by omega) b4
  · -- the first half ahead of the second
    have cr1 : ∀ x y, a ≤ x → x < s → E ≤ y → y < e → ltc c (f x) (f y) := fun x y b1 b2 b3 b4 => by
      have hlos : lo < s := by rcases Q.atlo with h | h <;> omega
      have k := h1 (s - 1) (by omega) (by omega)
      rw [show PP - (s - 1) = E by omega] at k
      have k2 : ltc c (f x) (f E) := by
        by_cases hx : x = s - 1
        · rw [hx]; exact k
        · exact Runs.tr O P.rng (by omega) (by omega) (by omega) (P.s1 x (s - 1) b1 (by omega) (by omega)) k
      by_cases hy : y = E
      · rw [hy]; exact k2
      · exact Runs.tr O P.rng (by omega) (by omega) (by omega) k2 (P.s2 E y (by omega) (by omega) b4)
    have cr2 : ∀ x y, m ≤ x → x < E → s ≤ y → y < m → ltc c (f x) (f y) := fun x y b1 b2 b3 b4 => by
      have hshi : s < hi := by rcases Q.athi with h | h <;> omega
      have k := h2 s (Nat.le_refl _) hshi
      rw [show PP - s = E - 1 by omega] at k
      have k2 : ltc c (f x) (f s) := by
        by_cases hx : x = E - 1
        · rw [hx]; exact k
        · exact Runs.tr O P.rng (by omega) (by omega) (by omega) (P.s2 x (E - 1) b1 (by omega) (by omega)) k
      by_cases hy : y = s
      · rw [hy]; exact k2
      · exact Runs.tr O P.rng (by omega) (by omega) (by omega) k2 (P.s1 s y (by omega) (by omega) b4)
    intro i j b1 b2 b3 b4
    by_cases ci : i < s
    · rw [v1 i ci]
      by_cases cj : j < E
      · rw [v3 j b3 cj]; exact P.s1 _ _ b1 (by omega) (by omega)
      · rw [v4 j (by omega)]; exact cr1 i j b1 ci (by omega) b4
    · rw [v2 i (by omega) b2]
      by_cases cj : j < E
      · rw [v3 j b3 cj]; exact cr2 _ _ (by omega) (by omega) (by omega) (by omega)
      · rw [v4 j (by omega)]; exact P.s2 _ _ (by omega) (by omega) b4
/-- Both halves put in order, the whole is. -/
theorem sym_join {n : Nat} {c : Int → Int → Int} {g g1 g2 : Nat → Int} {a D e : Nat} (haD : a ≤ D) (hDe : D ≤ e) (hc : ∀ i j, a ≤ i → i < D → D ≤ j → j < e → ltc c (g i) (g j)) (m1 : Mv g g1 a D) (s1 : Srt c g1 a D) (m2 : Mv g1 g2 D e) (s2 : Srt c g2 D e) : Srt c g2 a e ∧ Mv g g2 a e := by
  refine ⟨srt_join (n := 0) (f := g) (m := D) (fun i j h1 h2 h3 => ?_) s2 (fun i j h1 h2 h3 h4 => ?_), (m1.wide (Nat.le_refl _) hDe).trans (m2.wide haD (Nat.le_refl _))⟩
  · rw [m2.out i (by omega), m2.out j (by omega)]; exact s1 i j h1 h2 h3
  · obtain ⟨x, hx1, hx2, hx3⟩ := m1.img i h1 h2
    obtain ⟨y, hy1, hy2, hy3⟩ := m2.img j h3 h4
    rw [m2.out i (by omega), hx3, hy3, m1.out y (by omega)]
    exact hc x y hx1 hx2 hy1 hy2
theorem Runs.whole {n : Nat} {c : Int → Int → Int} {f : Nat → Int} {a m e : Nat} (P : Runs n c f a m e) (h : a = m ∨ m = e) : Srt c f a e := by
  rcases h with h | h
  · subst h; exact P.s2
  · subst h; exact P.s1
end Go.Proofs.Ytimkcpbgnoekcaa
namespace Go.Proofs.Ytimkcpbgnoekcaa
open Go.ChangeShapes Go.WideShapes Go.ChangeAt Go.RowKit
set_option linter.unusedVariables false
set_option maxRecDepth 100000
/-- What symMerge does, for runs up to a length. -/
def SymC (d : Nat) (W1 : World) (b n cap : Nat) (p q : Value) (c : Int → Int → Int) (F : Nat) : Prop := ∀ (a m e' : Nat) (g : Nat → Int) (w : World), e' - a ≤ d → a < m → m < e' → St W1 b n g w → Runs n c g a m e' →
    Calls Try.prog 97 #[.slice (some ⟨b, 0, none⟩) n cap, .int .i64 (a : Int), .int .i64 (m : Int), .int .i64 (e' : Int), .func (.func F) #[] #[p, q]] w fun e w' => e = .returned (.tuple #[]) ∧ ∃ g', St W1 b n g' w' ∧ Mv g g' a e' ∧ Srt c g' a e'
set_option maxHeartbeats 8000000 in
theorem symOne_87 {W1 w : World} {b n cap a m e' : Nat} {g : Nat → Int} {p q : Value} {c : Int → Int → Int} (K : CmpOk W1 b n 87 p q c) (O : OrdN n c) (h : St W1 b n g w) (P : Runs n c g a m e') (hn : n ≤ 16384) (hm : m = a + 1) (hme : m < e') :
    Calls Try.prog 97 #[.slice (some ⟨b, 0, none⟩) n cap, .int .i64 (a : Int), .int .i64 (m : Int), .int .i64 (e' : Int), .func (.func 87) #[] #[p, q]] w fun e w' => e = .returned (.tuple #[]) ∧ ∃ g', St W1 b n g' w' ∧ Mv g g' a e' ∧ Srt c g' a e' := by
  have hen := P.en
  have HK := hide K
  have HO := hide O
  have HP := hide P
  have H0 := hide h
  have ham : a < m := by omega
  have hma : ((m : Int) - (a : Int) == 1) = true := by rw [show (m : Int) - (a : Int) = 1 by omega]; rfl
  have HM := hide hm
  clear K O P h hm
  go_enter Try.func97, Try.ntmps97
  go_wp2
  go_loopg [10, 11] n (fun M i j wr => ∃ I J : Nat, I ≤ J ∧ m ≤ I ∧ J ≤ e' ∧ J - I ≤ M ∧ i = .int .i64 (I : Int) ∧ j = .int .i64 (J : Int) ∧ St W1 b n g wr ∧ (∀ x, m ≤ x → x < I → ltc c (g x) (g a)) ∧ (∀ x, J ≤ x → x < e' → ltc c (g a) (g x)))
  case atStart => exact ⟨m, e', by omega, Nat.le_refl _, Nat.le_refl _, by omega, rfl, rfl, H0.out, fun x h1 h2 => by omega, fun x h1 h2 => by omega⟩
  case round =>
    clear H0
    obtain ⟨I, J, hIJ, hI, hJ, hM, rfl, rfl, hs, hlo, hhi⟩ := hrel
    have HL := hide (And.intro hlo hhi)
    clear hlo hhi
    by_cases hlt : I < J
    · have hltz : (I : Int) < (J : Int) := by omega
      obtain ⟨H, hH⟩ : ∃ H : Nat, (I + J) / 2 = H := ⟨_, rfl⟩
      have hHz : ((I : Int) + (J : Int)) / 2 = (H : Int) := by omega
      have hX : H < n := by omega
      have hY : a < n := by omega
      have hR := HP.out.rng
      have HC := hide (HK.out.at_ hs hR hX hY)
      have KS := hide (hs.two hX hY)
      have HD0 : Hid (Below wr.heap.size wr wr.drew) := (Below.refl _ _).drew
      have HSW := hide hs
      obtain ⟨r, hr⟩ : ∃ r, c (g H) (g a) = r := ⟨_, rfl⟩
      obtain ⟨vX, hvX⟩ : ∃ v, g H = v := ⟨_, rfl⟩
      obtain ⟨vY, hvY⟩ : ∃ v, g a = v := ⟨_, rfl⟩
      rw [hr] at HC
      rw [hvX, hvY] at HC KS
      obtain ⟨lb, hlb⟩ : ∃ lb, decide (r < 0) = lb := ⟨_, rfl⟩
      have HLB : Hid (decide (c (g H) (g a) < 0) = lb) := by unfold Hid; rw [hr]; exact hlb
      have HLR := hide hlb
      have hXz : (H : Int) < (n : Int) := by omega
      have hYz : (a : Int) < (n : Int) := by omega
      clear hs hr hvX hvY hlb
      go_upto_region 5 with fail
      go_cut [50] from 40 to 50 (fun s wx => s = .bool lb ∧ Below wr.heap.size wr wx)
      case first =>
        have hlb := HLR.out
        go_region_held3 (fun W => Below wr.heap.size wr W ∧ W.cell? ⟨b, H, none⟩ = some (.int .i64 vX) ∧ W.cell? ⟨b, a, none⟩ = some (.int .i64 vY))
          (first | with_reducible exact KS.out _ HD0.out | with_reducible exact KS.out _ (by with_reducible assumption))
          (first | (go_at_call 87; refine (HC.out _ HD0.out).mono ?_; rintro e w5 ⟨rfl, hb5⟩))
        all_goals
          go_wp2
          go_meet
        all_goals
          case rel => exact ⟨rfl, hb5⟩
      case rest =>
      obtain ⟨rfl, hb9⟩ := hcut
      obtain ⟨W9, hW9⟩ : ∃ W9, W9 = wc := ⟨_, rfl⟩
      subst hW9
      have hs9 := HSW.out.next hb9
      have HS9 := hide hs9
      clear HC KS HD0 HSW HLR hXz hYz hb9
      go_upto_if 50 with fail
      cases lb
      case true =>
        have hl : ltc c (g H) (g a) := (HP.out.lt_iff (Nat.le_refl a) ham (by omega) (by omega)).1 (of_decide_eq_true HLB.out)
        have HN : Hid (∀ x, m ≤ x → x < H + 1 → ltc c (g x) (g a)) := fun x h1 h2 => by
          by_cases hx : x = H
          · rw [hx]; exact hl
          · exact Runs.tr HO.out HP.out.rng (by omega) hX hY (HP.out.s2 x H h1 (by omega) (by omega)) hl
        clear hs9 hl hR
        go_wp2
        go_roundg (J - (H + 1))
        case rel => exact ⟨H + 1, J, by omega, by omega, hJ, by omega, by go_num, rfl, HS9.out, HN.out, HL.out.2⟩
        case measure => omega
      case false =>
        have hl : ltc c (g a) (g H) := HP.out.tot HO.out (Nat.le_refl a) ham (by omega) (by omega) fun hh => of_decide_eq_false HLB.out ((HP.out.lt_iff (Nat.le_refl a) ham (by omega) (by omega)).2 hh)
        have HN : Hid (∀ x, H ≤ x → x < e' → ltc c (g a) (g x)) := fun x h1 h2 => by
          by_cases hx : x = H
          · rw [hx]; exact hl
          · exact Runs.tr HO.out HP.out.rng hY hX (by omega) hl (HP.out.s2 H x (by omega) (by omega) h2)
        clear hs9 hl hR
        go_wp2
        go_roundg (H - I)
        case rel => exact ⟨I, H, by omega, hI, by omega, by omega, rfl, rfl, HS9.out, HL.out.1, HN.out⟩
        case measure => omega
    · have hIe : J = I := by omega
      subst hIe
      have HS0 : Hid (St W1 b n (mvR g a (a + 1)) wr) := by unfold Hid; rw [mvR_self]; exact hs
      obtain ⟨wo, hwo⟩ : ∃ wo, wo = wr := ⟨_, rfl⟩
      subst hwo
      clear hs
      go_wp2
      go_loopg [13] (J - a) (fun M k wr => ∃ k' : Nat, a ≤ k' ∧ k' + 1 ≤ J ∧ M + k' = J ∧ k = .int .i64 (k' : Int) ∧ St W1 b n (mvR g a (k' + 1)) wr)
      case atStart => exact ⟨a, Nat.le_refl _, by omega, by omega, rfl, HS0.out⟩
      case round =>
        clear HS0
        obtain ⟨k', hk1, hk2, hM2, rfl, hs⟩ := hrel
        by_cases hlt2 : k' + 1 < J
        · have hkz : (k' : Int) < (J : Int) - 1 := by omega
          obtain ⟨k2, hk2'⟩ : ∃ k2 : Nat, k' + 1 = k2 := ⟨_, rfl⟩
          have hw2 : IntKind.i64.wrap ((k' : Int) + 1) = (k2 : Int) := by rw [show (k' : Int) + 1 = (k2 : Int) by omega]; exact IntWalk.i64_in _ ⟨by omega, by omega⟩
          have hX : k' < n := by omega
          have hY : k2 < n := by omega
          have hstep : swp (mvR g a k2) k' k2 = mvR g a (k2 + 1) := by rw [← hk2']; exact mvR_step g a k' hk1
          rw [hk2'] at hs
          obtain ⟨c1, f1⟩ := hs.row k' hX
          obtain ⟨c2, f2⟩ := hs.row k2 hY
          have HS1 : Hid (St W1 b n (mvR g a (k2 + 1)) ((wr.setCell ⟨b, k', none⟩ (.int .i64 ((mvR g a k2) k2))).setCell ⟨b, k2, none⟩ (.int .i64 ((mvR g a k2) k'))).drew) := by
            have := (hs.swap hX hY).drew
            rw [hstep] at this
            exact this
          have HS2 : Hid (St W1 b n (mvR g a (k2 + 1)) ((wr.setCell ⟨b, k2, none⟩ (.int .i64 ((mvR g a k2) k'))).setCell ⟨b, k', none⟩ (.int .i64 ((mvR g a k2) k2))).drew) := by
            have := (hs.swap' hX hY).drew
            rw [hstep] at this
            exact this
          generalize (mvR g a k2) k2 = x at *
          generalize (mvR g a k2) k' = y at *
          have hne1 : ¬ k' = k2 := by omega
          have hne2 : ¬ k2 = k' := by omega
          have hXz : (k' : Int) < (n : Int) := by omega
          have hYz : (k2 : Int) < (n : Int) := by omega
          clear hs hstep
          go_wp2
          go_region
          all_goals
            go_wp2
            go_roundg (J - k2)
            case rel => first | exact ⟨k2, by omega, by omega, by omega, by go_num, HS1.out⟩ | exact ⟨k2, by omega, by omega, by omega, by go_num, HS2.out⟩
            case measure => omega
        · have hke : k' + 1 = J := by omega
          have hkz : ¬ (k' : Int) < (J : Int) - 1 := by omega
          rw [hke] at hs
          have HF : Hid (∃ g', St W1 b n g' wr ∧ Mv g g' a e' ∧ Srt c g' a e') := by
            have hm1 := HM.out
            refine ⟨mvR g a J, hs, mvR_mv g (by omega) hJ, mvR_srt HO.out HP.out.rng (by omega) hJ hen (by rw [← hm1]; exact HP.out.s2) (fun x h1 h2 => HL.out.1 x (by omega) h2) HL.out.2⟩
          clear hs
          go_wp2
          exact bodyPost_ret (v := .tuple #[]) (by simp [results, Try.results97, go_sem]) rfl ⟨rfl, HF.out⟩
set_option maxHeartbeats 8000000 in
theorem symLast_87 {W1 w : World} {b n cap a m e' : Nat} {g : Nat → Int} {p q : Value} {c : Int → Int → Int} (K : CmpOk W1 b n 87 p q c) (O : OrdN n c) (h : St W1 b n g w) (P : Runs n c g a m e') (hn : n ≤ 16384) (hm : ¬ m = a + 1) (ham : a < m) (he : e' = m + 1) :
    Calls Try.prog 97 #[.slice (some ⟨b, 0, none⟩) n cap, .int .i64 (a : Int), .int .i64 (m : Int), .int .i64 (e' : Int), .func (.func 87) #[] #[p, q]] w fun e w' => e = .returned (.tuple #[]) ∧ ∃ g', St W1 b n g' w' ∧ Mv g g' a e' ∧ Srt c g' a e' := by
  have hen := P.en
  have HK := hide K
  have HO := hide O
  have HP := hide P
  have H0 := hide h
  have hme : m < e' := by omega
  have hma : ((m : Int) - (a : Int) == 1) = false := beq_eq_false_iff_ne.2 (by omega)
  have hem : ((e' : Int) - (m : Int) == 1) = true := by rw [show (e' : Int) - (m : Int) = 1 by omega]; rfl
  have HE := hide he
  clear K O P h hm he
  go_enter Try.func97, Try.ntmps97
  go_wp2
  go_loopg [14, 15] n (fun M i j wr => ∃ I J : Nat, I ≤ J ∧ a ≤ I ∧ J ≤ m ∧ J - I ≤ M ∧ i = .int .i64 (I : Int) ∧ j = .int .i64 (J : Int) ∧ St W1 b n g wr ∧ (∀ x, a ≤ x → x < I → ltc c (g x) (g m)) ∧ (∀ x, J ≤ x → x < m → ltc c (g m) (g x)))
  case atStart => exact ⟨a, m, by omega, Nat.le_refl _, Nat.le_refl _, by omega, rfl, rfl, H0.out, fun x h1 h2 => by omega, fun x h1 h2 => by omega⟩
  case round =>
    clear H0
    obtain ⟨I, J, hIJ, hI, hJ, hM, rfl, rfl, hs, hlo, hhi⟩ := hrel
    have HL := hide (And.intro hlo hhi)
    clear hlo hhi
    by_cases hlt : I < J
    · have hltz : (I : Int) < (J : Int) := by omega
      obtain ⟨H, hH⟩ : ∃ H : Nat, (I + J) / 2 = H := ⟨_, rfl⟩
      have hHz : ((I : Int) + (J : Int)) / 2 = (H : Int) := by omega
      have hX : m < n := by omega
      have hY : H < n := by omega
      have hR := HP.out.rng
      have HC := hide (HK.out.at_ hs hR hX hY)
      have KS := hide (hs.two hX hY)
      have HD0 : Hid (Below wr.heap.size wr wr.drew) := (Below.refl _ _).drew
      have HSW := hide hs
      obtain ⟨r, hr⟩ : ∃ r, c (g m) (g H) = r := ⟨_, rfl⟩
      obtain ⟨vX, hvX⟩ : ∃ v, g m = v := ⟨_, rfl⟩
      obtain ⟨vY, hvY⟩ : ∃ v, g H = v := ⟨_, rfl⟩
      rw [hr] at HC
      rw [hvX, hvY] at HC KS
      obtain ⟨lb, hlb⟩ : ∃ lb, decide (r < 0) = lb := ⟨_, rfl⟩
      have HLB : Hid (decide (c (g m) (g H) < 0) = lb) := by unfold Hid; rw [hr]; exact hlb
      have HLR := hide hlb
      have hXz : (m : Int) < (n : Int) := by omega
      have hYz : (H : Int) < (n : Int) := by omega
      clear hs hr hvX hvY hlb
      go_upto_region 17 with fail
      go_cut [103] from 92 to 103 (fun s wx => s = .bool (!lb) ∧ Below wr.heap.size wr wx)
      case first =>
        have hlb := HLR.out
        go_region_held3 (fun W => Below wr.heap.size wr W ∧ W.cell? ⟨b, m, none⟩ = some (.int .i64 vX) ∧ W.cell? ⟨b, H, none⟩ = some (.int .i64 vY))
          (first | with_reducible exact KS.out _ HD0.out | with_reducible exact KS.out _ (by with_reducible assumption))
          (first | (go_at_call 87; refine (HC.out _ HD0.out).mono ?_; rintro e w5 ⟨rfl, hb5⟩))
        all_goals
          go_wp2
          go_meet
        all_goals
          case rel => exact ⟨rfl, hb5⟩
      case rest =>
      obtain ⟨rfl, hb9⟩ := hcut
      obtain ⟨W9, hW9⟩ : ∃ W9, W9 = wc := ⟨_, rfl⟩
      subst hW9
      have hs9 := HSW.out.next hb9
      have HS9 := hide hs9
      clear HC KS HD0 HSW HLR hXz hYz hb9
      go_upto_if 103 with fail
      cases lb
      case false =>
        have hl : ltc c (g H) (g m) := HP.out.tot HO.out (by omega) (by omega) (Nat.le_refl m) hme fun hh => of_decide_eq_false HLB.out ((HP.out.lt_iff (by omega) (by omega) (Nat.le_refl m) hme).2 hh)
        have HN : Hid (∀ x, a ≤ x → x < H + 1 → ltc c (g x) (g m)) := fun x h1 h2 => by
          by_cases hx : x = H
          · rw [hx]; exact hl
          · exact Runs.tr HO.out HP.out.rng (by omega) hY hX (HP.out.s1 x H h1 (by omega) (by omega)) hl
        clear hs9 hl hR
        go_wp2
        go_roundg (J - (H + 1))
        case rel => exact ⟨H + 1, J, by omega, by omega, hJ, by omega, by go_num, rfl, HS9.out, HN.out, HL.out.2⟩
        case measure => omega
      case true =>
        have hl : ltc c (g m) (g H) := (HP.out.lt_iff (by omega) (by omega) (Nat.le_refl m) hme).1 (of_decide_eq_true HLB.out)
        have HN : Hid (∀ x, H ≤ x → x < m → ltc c (g m) (g x)) := fun x h1 h2 => by
          by_cases hx : x = H
          · rw [hx]; exact hl
          · exact Runs.tr HO.out HP.out.rng hX hY (by omega) hl (HP.out.s1 H x (by omega) (by omega) h2)
        clear hs9 hl hR
        go_wp2
        go_roundg (H - I)
        case rel => exact ⟨I, H, by omega, hI, by omega, by omega, rfl, rfl, HS9.out, HL.out.1, HN.out⟩
        case measure => omega
    · have hIe : J = I := by omega
      subst hIe
      have HS0 : Hid (St W1 b n (ins g m m) wr) := by unfold Hid; rw [ins_self]; exact hs
      obtain ⟨wo, hwo⟩ : ∃ wo, wo = wr := ⟨_, rfl⟩
      subst hwo
      clear hs
      go_wp2
      go_loopg [17] (m + 1) (fun M k wr => ∃ k' : Nat, J ≤ k' ∧ k' ≤ m ∧ M = k' + 1 ∧ k = .int .i64 (k' : Int) ∧ St W1 b n (ins g m k') wr)
      case atStart => exact ⟨m, by omega, Nat.le_refl _, rfl, rfl, HS0.out⟩
      case round =>
        clear HS0
        obtain ⟨k', hk1, hk2, hM2, rfl, hs⟩ := hrel
        by_cases hlt2 : J < k'
        · have hkz : (J : Int) < (k' : Int) := by omega
          obtain ⟨k2, hk2'⟩ : ∃ k2 : Nat, k' - 1 = k2 := ⟨_, rfl⟩
          have hw2 : IntKind.i64.wrap ((k' : Int) - 1) = (k2 : Int) := by rw [show (k' : Int) - 1 = (k2 : Int) by omega]; exact IntWalk.i64_in _ ⟨by omega, by omega⟩
          have hX : k' < n := by omega
          have hY : k2 < n := by omega
          have hstep : swp (ins g m k') k' k2 = ins g m k2 := by rw [← hk2']; exact ins_step g m k' (by omega) hk2
          obtain ⟨c1, f1⟩ := hs.row k' hX
          obtain ⟨c2, f2⟩ := hs.row k2 hY
          have HS1 : Hid (St W1 b n (ins g m k2) ((wr.setCell ⟨b, k', none⟩ (.int .i64 ((ins g m k') k2))).setCell ⟨b, k2, none⟩ (.int .i64 ((ins g m k') k'))).drew) := by
            have := (hs.swap hX hY).drew
            rw [hstep] at this
            exact this
          have HS2 : Hid (St W1 b n (ins g m k2) ((wr.setCell ⟨b, k2, none⟩ (.int .i64 ((ins g m k') k'))).setCell ⟨b, k', none⟩ (.int .i64 ((ins g m k') k2))).drew) := by
            have := (hs.swap' hX hY).drew
            rw [hstep] at this
            exact this
          generalize (ins g m k') k2 = x at *
          generalize (ins g m k') k' = y at *
          have hne1 : ¬ k' = k2 := by omega
          have hne2 : ¬ k2 = k' := by omega
          have hXz : (k' : Int) < (n : Int) := by omega
          have hYz : (k2 : Int) < (n : Int) := by omega
          clear hs hstep
          go_wp2
          go_region
          all_goals
            go_wp2
            go_roundg (k2 + 1)
            case rel => first | exact ⟨k2, by omega, by omega, rfl, by go_num, HS1.out⟩ | exact ⟨k2, by omega, by omega, rfl, by go_num, HS2.out⟩
            case measure => omega
        · have hke : k' = J := by omega
          subst hke
          have HF : Hid (∃ g', St W1 b n g' wr ∧ Mv g g' a e' ∧ Srt c g' a e') := by
            have he1 := HE.out
            rw [he1]
            exact ⟨ins g m k', hs, ins_mv g hI hJ, ins_srt HO.out HP.out.rng (by omega) hI hJ HP.out.s1 HL.out.2 fun h => HL.out.1 (k' - 1) (by omega) (by omega)⟩
          clear hs
          go_wp2
          exact bodyPost_ret (v := .tuple #[]) (by simp [results, Try.results97, go_sem]) rfl ⟨rfl, HF.out⟩
set_option maxHeartbeats 16000000 in
theorem symMore_87 {W1 w : World} {b n cap a m e' d : Nat} {g : Nat → Int} {p q : Value} {c : Int → Int → Int} (K : CmpOk W1 b n 87 p q c) (O : OrdN n c) (IH : SymC d W1 b n cap p q c 87) (h : St W1 b n g w) (P : Runs n c g a m e') (hn : n ≤ 16384) (hm : a + 2 ≤ m) (he : m + 2 ≤ e') (hd : e' - a ≤ d + 1) :
    Calls Try.prog 97 #[.slice (some ⟨b, 0, none⟩) n cap, .int .i64 (a : Int), .int .i64 (m : Int), .int .i64 (e' : Int), .func (.func 87) #[] #[p, q]] w fun e w' => e = .returned (.tuple #[]) ∧ ∃ g', St W1 b n g' w' ∧ Mv g g' a e' ∧ Srt c g' a e' := by
  have hen := P.en
  have HK := hide K
  have HO := hide O
  have HP := hide P
  have H0 := hide h
  have HIH := hide IH
  have hma : ((m : Int) - (a : Int) == 1) = false := beq_eq_false_iff_ne.2 (by omega)
  have hem : ((e' : Int) - (m : Int) == 1) = false := beq_eq_false_iff_ne.2 (by omega)
  obtain ⟨D, hD⟩ : ∃ D : Nat, (a + e') / 2 = D := ⟨_, rfl⟩
  have hDz : ((a : Int) + (e' : Int)) / 2 = (D : Int) := by omega
  obtain ⟨PP, hPP⟩ : ∃ PP : Nat, D + m - 1 = PP := ⟨_, rfl⟩
  obtain ⟨lo, hlo⟩ : ∃ lo : Nat, (if D < m then D + m - e' else a) = lo := ⟨_, rfl⟩
  obtain ⟨hi, hhi⟩ : ∃ hi : Nat, (if D < m then D else m) = hi := ⟨_, rfl⟩
  have Q : Part n c g a m e' D lo hi PP := part_of (by omega) (by omega) hD.symm (by omega) (by
    rw [← hlo, ← hhi]
    by_cases hh : D < m
    · rw [if_pos hh, if_pos hh]; exact Or.inl ⟨hh, by omega, rfl⟩
    · rw [if_neg hh, if_neg hh]; exact Or.inr ⟨by omega, rfl, rfl⟩)
  have HQ := hide Q
  have hDa : a < D ∧ D < e' := by omega
  have HPP : Hid (PP + 1 = D + m) := by unfold Hid; omega
  have HLH : Hid ((D < m → lo + e' = D + m ∧ hi = D) ∧ (¬ D < m → lo = a ∧ hi = m)) := by
    rw [← hlo, ← hhi]
    exact ⟨fun hh => by rw [if_pos hh, if_pos hh]; exact ⟨by omega, rfl⟩, fun hh => by rw [if_neg hh, if_neg hh]; exact ⟨rfl, rfl⟩⟩
  have him := Q.him
  have halo := Q.alo
  have hlohi := Q.lohi
  have hhiD := Q.hiD
  have HD := hide hD
  obtain ⟨NN, hNN⟩ : ∃ NN : Nat, D + m = NN := ⟨_, rfl⟩
  have hNz : (D : Int) + (m : Int) = (NN : Int) := by omega
  have HNN := hide hNN
  have hNb : NN ≤ 32768 := by omega
  have hNm : m < NN := by omega
  have hNPz : (NN : Int) - 1 = (PP : Int) := by omega
  clear K O P h IH hlo hhi Q hPP hNN hD
  obtain ⟨dm, hdm⟩ : ∃ dm, decide (D < m) = dm := ⟨_, rfl⟩
  go_enter Try.func97, Try.ntmps97
  go_upto_if 140 with fail
  go_cut [20, 21] from 141 to 146 (fun s r wx => s = .int .i64 (lo : Int) ∧ r = .int .i64 (hi : Int) ∧ wx = w)
  case first =>
    cases dm
    case true =>
      have hh := HLH.out.1 (of_decide_eq_true hdm)
      have HE : Hid ((NN : Int) - (e' : Int) = (lo : Int) ∧ (D : Int) = (hi : Int)) := by have := HNN.out; exact ⟨by omega, by omega⟩
      clear hh
      go_wp2
      go_meet
      exact ⟨by rw [← HE.out.1], by rw [HE.out.2], rfl⟩
    case false =>
      have hh := HLH.out.2 (of_decide_eq_false hdm)
      have HE : Hid ((a : Int) = (lo : Int) ∧ (m : Int) = (hi : Int)) := ⟨by omega, by omega⟩
      clear hh
      go_wp2
      go_meet
      exact ⟨by rw [HE.out.1], by rw [HE.out.2], rfl⟩
  case rest =>
  obtain ⟨rfl, rfl, hwc⟩ := hcut
  have hwc' := hwc.symm
  subst hwc'
  clear hwc
  go_wp2
  go_loopg [20, 21] n (fun M i j wr => ∃ I J : Nat, I ≤ J ∧ lo ≤ I ∧ J ≤ hi ∧ J - I ≤ M ∧ i = .int .i64 (I : Int) ∧ j = .int .i64 (J : Int) ∧ St W1 b n g wr ∧ (∀ x, lo ≤ x → x < I → ltc c (g x) (g (PP - x))) ∧ (∀ x, J ≤ x → x < hi → ltc c (g (PP - x)) (g x)))
  case atStart => exact ⟨lo, hi, hlohi, Nat.le_refl _, Nat.le_refl _, by omega, rfl, rfl, H0.out, fun x h1 h2 => by omega, fun x h1 h2 => by omega⟩
  case round =>
    clear H0
    obtain ⟨I, J, hIJ, hI, hJ, hM, rfl, rfl, hs, hll, hhh⟩ := hrel
    have HL := hide (And.intro hll hhh)
    clear hll hhh
    by_cases hlt : I < J
    · have hltz : (I : Int) < (J : Int) := by omega
      obtain ⟨H, hH⟩ : ∃ H : Nat, (I + J) / 2 = H := ⟨_, rfl⟩
      have hHz : ((I : Int) + (J : Int)) / 2 = (H : Int) := by omega
      have hdom := HQ.out.dom H (by omega) (by omega)
      obtain ⟨PC, hPC⟩ : ∃ PC : Nat, PP - H = PC := ⟨_, rfl⟩
      have hwp : IntKind.i64.wrap ((PP : Int) - (H : Int)) = (PC : Int) := by rw [show (PP : Int) - (H : Int) = (PC : Int) by omega]; exact IntWalk.i64_in _ ⟨by omega, by omega⟩
      have hX : PC < n := by omega
      have hY : H < n := by omega
      have hR := HP.out.rng
      have HPC := hide hPC
      have HDM : Hid (a ≤ H ∧ H < m ∧ m ≤ PC ∧ PC < e') := ⟨by omega, by omega, by omega, by omega⟩
      clear hdom hPC
      have HC := hide (HK.out.at_ hs hR hX hY)
      have KS := hide (hs.two hX hY)
      have HD0 : Hid (Below wr.heap.size wr wr.drew) := (Below.refl _ _).drew
      have HSW := hide hs
      obtain ⟨r, hr⟩ : ∃ r, c (g PC) (g H) = r := ⟨_, rfl⟩
      obtain ⟨vX, hvX⟩ : ∃ v, g PC = v := ⟨_, rfl⟩
      obtain ⟨vY, hvY⟩ : ∃ v, g H = v := ⟨_, rfl⟩
      rw [hr] at HC
      rw [hvX, hvY] at HC KS
      obtain ⟨lb, hlb⟩ : ∃ lb, decide (r < 0) = lb := ⟨_, rfl⟩
      have HLB : Hid (decide (c (g PC) (g H) < 0) = lb) := by unfold Hid; rw [hr]; exact hlb
      have HLR := hide hlb
      have hXz : (PC : Int) < (n : Int) := by omega
      have hYz : (H : Int) < (n : Int) := by omega
      clear hs hr hvX hvY hlb
      go_upto_region 35 with fail
      go_cut [171] from 158 to 171 (fun s wx => s = .bool (!lb) ∧ Below wr.heap.size wr wx)
      case first =>
        have hlb := HLR.out
        go_region_held3 (fun W => Below wr.heap.size wr W ∧ W.cell? ⟨b, PC, none⟩ = some (.int .i64 vX) ∧ W.cell? ⟨b, H, none⟩ = some (.int .i64 vY))
          (first | with_reducible exact KS.out _ HD0.out | with_reducible exact KS.out _ (by with_reducible assumption))
          (first | (go_at_call 87; refine (HC.out _ HD0.out).mono ?_; rintro e w5 ⟨rfl, hb5⟩))
        all_goals
          go_wp2
          go_meet
        all_goals
          case rel => exact ⟨rfl, hb5⟩
      case rest =>
      obtain ⟨rfl, hb9⟩ := hcut
      obtain ⟨W9, hW9⟩ : ∃ W9, W9 = wc := ⟨_, rfl⟩
      subst hW9
      have hs9 := HSW.out.next hb9
      have HS9 := hide hs9
      clear HC KS HD0 HSW HLR hXz hYz hb9
      go_upto_if 171 with fail
      have hdm2 := HDM.out
      cases lb
      case false =>
        have hl : ltc c (g H) (g PC) := HP.out.tot HO.out hdm2.1 hdm2.2.1 hdm2.2.2.1 hdm2.2.2.2 fun hh => of_decide_eq_false HLB.out ((HP.out.lt_iff hdm2.1 hdm2.2.1 hdm2.2.2.1 hdm2.2.2.2).2 hh)
        have HN : Hid (∀ x, lo ≤ x → x < H + 1 → ltc c (g x) (g (PP - x))) := step_lo HO.out HP.out HQ.out (by omega) (by omega) (by rw [HPC.out]; exact hl)
        clear hs9 hl hR hdm2
        go_wp2
        go_roundg (J - (H + 1))
        case rel => exact ⟨H + 1, J, by omega, by omega, hJ, by omega, by go_num, rfl, HS9.out, HN.out, HL.out.2⟩
        case measure => omega
      case true =>
        have hl : ltc c (g PC) (g H) := (HP.out.lt_iff hdm2.1 hdm2.2.1 hdm2.2.2.1 hdm2.2.2.2).1 (of_decide_eq_true HLB.out)
        have HN : Hid (∀ x, H ≤ x → x < hi → ltc c (g (PP - x)) (g x)) := step_hi HO.out HP.out HQ.out (by omega) (by omega) (by rw [HPC.out]; exact hl)
        clear hs9 hl hR hdm2
        go_wp2
        go_roundg (H - I)
        case rel => exact ⟨I, H, by omega, hI, by omega, by omega, rfl, rfl, HS9.out, HL.out.1, HN.out⟩
        case measure => omega
    · have hIe : J = I := by omega
      subst hIe
      obtain ⟨E, hE⟩ : ∃ E : Nat, NN - J = E := ⟨_, rfl⟩
      have hEz : (NN : Int) - (J : Int) = (E : Int) := by have := HNN.out; omega
      obtain ⟨haS, hSD, hDE, hEe, P1, P2, hcr⟩ := sym_split HO.out (E := E) HP.out HQ.out (by omega) (by omega) hI hJ (by have := HNN.out; omega) HL.out.1 HL.out.2
      have hmE : J ≤ m ∧ m ≤ E := by have := HNN.out; omega
      have HSPL := hide (And.intro P1 (And.intro P2 hcr))
      have HMV : Hid (Mv g (rotF g J m E) a e') := (rot_mv g hmE.1 hmE.2).wide haS hEe
      obtain ⟨G, hG⟩ : ∃ G, rotF g J m E = G := ⟨_, rfl⟩
      rw [hG] at HSPL HMV
      have HS := hide hs
      have HGG := hide hG
      obtain ⟨wo, hwo⟩ : ∃ wo, wo = wr := ⟨_, rfl⟩
      subst hwo
      clear P1 P2 hcr hs hG hE HL
      obtain ⟨rb, hrb⟩ : ∃ rb, decide (J < m ∧ m < E) = rb := ⟨_, rfl⟩
      have HRB := hide hrb
      clear hrb
      go_upto_region 39 with fail
      go_cut [185] from 178 to 185 (fun s wx => s = .bool rb ∧ wx = wo)
      case first =>
        by_cases h1 : J < m
        · have h1z : (J : Int) < (m : Int) := by omega
          by_cases h2 : m < E
          · have h2z : (m : Int) < (E : Int) := by omega
            have hb : rb = true := by rw [← HRB.out]; exact decide_eq_true ⟨h1, h2⟩
            subst hb
            go_wp2
            go_meet
            exact ⟨rfl, rfl⟩
          · have h2z : ¬ (m : Int) < (E : Int) := by omega
            have hb : rb = false := by rw [← HRB.out]; exact decide_eq_false fun h => h2 h.2
            subst hb
            go_wp2
            go_meet
            exact ⟨rfl, rfl⟩
        · have h1z : ¬ (J : Int) < (m : Int) := by omega
          have hb : rb = false := by rw [← HRB.out]; exact decide_eq_false fun h => h1 h.1
          subst hb
          go_wp2
          go_meet
          exact ⟨rfl, rfl⟩
      case rest =>
      obtain ⟨rfl, hwc⟩ := hcut
      have hwc' := hwc.symm
      subst hwc'
      clear hwc
      go_upto_if 185 with fail
      go_cut [185] from 185 to 191 (fun s wx => St W1 b n G wx)
      case first =>
        cases rb
        case true =>
          have hh := of_decide_eq_true HRB.out
          have C := rotate_any (c := cap) (.func (.func 87) #[] #[p, q]) HS.out hn hh.1 hh.2 (by omega)
          rw [HGG.out] at C
          clear hh
          go_wp2_with fail
          refine C.mono ?_
          clear C
          rintro e w5 ⟨rfl, hs5⟩
          have HS5 := hide hs5
          clear hs5
          go_wp2
          go_meet
          exact HS5.out
        case false =>
          have hh := of_decide_eq_false HRB.out
          have HS5 : Hid (St W1 b n G wo) := by
            unfold Hid
            rw [← HGG.out, rot_triv g hmE.1 hmE.2 (by omega)]
            exact HS.out
          clear hh
          go_wp2
          go_meet
          exact HS5.out
      case rest =>
      have HSG := hide hcut
      obtain ⟨W6, hW6⟩ : ∃ W6, W6 = wc := ⟨_, rfl⟩
      subst hW6
      clear hcut HS
      obtain ⟨r1, hr1⟩ : ∃ rb, decide (a < J ∧ J < D) = rb := ⟨_, rfl⟩
      have HR1 := hide hr1
      clear hr1
      go_upto_region 41 with fail
      go_cut [199] from 192 to 199 (fun s wx => s = .bool r1 ∧ wx = W6)
      case first =>
        by_cases h1 : a < J
        · have h1z : (a : Int) < (J : Int) := by omega
          by_cases h2 : J < D
          · have h2z : (J : Int) < (D : Int) := by omega
            have hb : r1 = true := by rw [← HR1.out]; exact decide_eq_true ⟨h1, h2⟩
            subst hb
            go_wp2
            go_meet
            exact ⟨rfl, rfl⟩
          · have h2z : ¬ (J : Int) < (D : Int) := by omega
            have hb : r1 = false := by rw [← HR1.out]; exact decide_eq_false fun h => h2 h.2
            subst hb
            go_wp2
            go_meet
            exact ⟨rfl, rfl⟩
        · have h1z : ¬ (a : Int) < (J : Int) := by omega
          have hb : r1 = false := by rw [← HR1.out]; exact decide_eq_false fun h => h1 h.1
          subst hb
          go_wp2
          go_meet
          exact ⟨rfl, rfl⟩
      case rest =>
      obtain ⟨rfl, hwc⟩ := hcut
      have hwc' := hwc.symm
      subst hwc'
      clear hwc
      go_upto_if 199 with fail
      go_cut [199] from 199 to 205 (fun s wx => ∃ g1, St W1 b n g1 wx ∧ Mv G g1 a D ∧ Srt c g1 a D)
      case first =>
        cases r1
        case true =>
          have hh := of_decide_eq_true HR1.out
          have C := HIH.out a J D G W6 (by omega) hh.1 hh.2 HSG.out HSPL.out.1
          clear hh
          go_wp2_with fail
          refine C.mono ?_
          clear C
          rintro e w5 ⟨rfl, hs5⟩
          have HS5 := hide hs5
          clear hs5
          go_wp2
          go_meet
          exact HS5.out
        case false =>
          have hh := of_decide_eq_false HR1.out
          have HS5 : Hid (∃ g1, St W1 b n g1 W6 ∧ Mv G g1 a D ∧ Srt c g1 a D) := ⟨G, HSG.out, Mv.refl _ _ _, HSPL.out.1.whole (by omega)⟩
          clear hh
          go_wp2
          go_meet
          exact HS5.out
      case rest =>
      obtain ⟨g1, hs1, hmv1, hsr1⟩ := hcut
      obtain ⟨W7, hW7⟩ : ∃ W7, W7 = wc := ⟨_, rfl⟩
      subst hW7
      have HG1 := hide (And.intro hmv1 hsr1)
      have HS1 := hide hs1
      have P2' : Runs n c g1 D E e' := by
        have P := HSPL.out.2.1
        refine ⟨P.am, P.me, P.en, hmv1.rng (by omega) P.rng, fun i j h1 h2 h3 => ?_, fun i j h1 h2 h3 => ?_, fun i j h1 h2 h3 h4 => ?_⟩
        · rw [hmv1.out i (by omega), hmv1.out j (by omega)]; exact P.s1 i j h1 h2 h3
        · rw [hmv1.out i (by omega), hmv1.out j (by omega)]; exact P.s2 i j h1 h2 h3
        · rw [hmv1.out i (by omega), hmv1.out j (by omega)]; exact P.lr i j h1 h2 h3 h4
      have HP2 := hide P2'
      clear hs1 hmv1 hsr1 P2' HSG
      obtain ⟨r2, hr2⟩ : ∃ rb, decide (D < E ∧ E < e') = rb := ⟨_, rfl⟩
      have HR2 := hide hr2
      clear hr2
      go_upto_region 43 with fail
      go_cut [213] from 206 to 213 (fun s wx => s = .bool r2 ∧ wx = W7)
      case first =>
        by_cases h1 : D < E
        · have h1z : (D : Int) < (E : Int) := by omega
          by_cases h2 : E < e'
          · have h2z : (E : Int) < (e' : Int) := by omega
            have hb : r2 = true := by rw [← HR2.out]; exact decide_eq_true ⟨h1, h2⟩
            subst hb
            go_wp2
            go_meet
            exact ⟨rfl, rfl⟩
          · have h2z : ¬ (E : Int) < (e' : Int) := by omega
            have hb : r2 = false := by rw [← HR2.out]; exact decide_eq_false fun h => h2 h.2
            subst hb
            go_wp2
            go_meet
            exact ⟨rfl, rfl⟩
        · have h1z : ¬ (D : Int) < (E : Int) := by omega
          have hb : r2 = false := by rw [← HR2.out]; exact decide_eq_false fun h => h1 h.1
          subst hb
          go_wp2
          go_meet
          exact ⟨rfl, rfl⟩
      case rest =>
      obtain ⟨rfl, hwc⟩ := hcut
      have hwc' := hwc.symm
      subst hwc'
      clear hwc
      have HEND : Hid (∀ W g2, St W1 b n g2 W → Mv g1 g2 D e' → Srt c g2 D e' → ∃ g', St W1 b n g' W ∧ Mv g g' a e' ∧ Srt c g' a e') := fun W g2 h1 h2 h3 => by
        obtain ⟨j1, j2⟩ := sym_join (n := n) (by omega) (by omega) HSPL.out.2.2 HG1.out.1 HG1.out.2 h2 h3
        exact ⟨g2, h1, HMV.out.trans j2, j1⟩
      cases r2
      case true =>
        have hh := of_decide_eq_true HR2.out
        have C := HIH.out D E e' g1 W7 (by omega) hh.1 hh.2 HS1.out HP2.out
        clear hh
        go_wp2_with fail
        refine C.mono ?_
        clear C
        rintro e w5 ⟨rfl, g2, hs5, hm5, hr5⟩
        have HS5 := hide (HEND.out _ _ hs5 hm5 hr5)
        clear hs5 hm5 hr5
        go_wp2
        go_end0
        exact ⟨rfl, HS5.out⟩
      case false =>
        have hh := of_decide_eq_false HR2.out
        have HS5 := hide (HEND.out W7 g1 HS1.out (Mv.refl _ _ _) (HP2.out.whole (by omega)))
        clear hh
        go_wp2
        go_end0
        exact ⟨rfl, HS5.out⟩
theorem symMerge_87 {W1 : World} {b n cap : Nat} {p q : Value} {c : Int → Int → Int} (K : CmpOk W1 b n 87 p q c) (O : OrdN n c) (hn : n ≤ 16384) (d : Nat) : SymC d W1 b n cap p q c 87 := by
  induction d with
  | zero => intro a m e' g w h1 h2 h3; omega
  | succ d ih =>
    intro a m e' g w h1 h2 h3 hs P
    by_cases c1 : m = a + 1
    · exact symOne_87 K O hs P hn c1 h3
    · by_cases c2 : e' = m + 1
      · exact symLast_87 K O hs P hn c1 h2 c2
      · exact symMore_87 K O ih hs P hn (by omega) (by omega) h1
set_option maxHeartbeats 8000000 in
theorem symOne_79 {W1 w : World} {b n cap a m e' : Nat} {g : Nat → Int} {p q : Value} {c : Int → Int → Int} (K : CmpOk W1 b n 79 p q c) (O : OrdN n c) (h : St W1 b n g w) (P : Runs n c g a m e') (hn : n ≤ 16384) (hm : m = a + 1) (hme : m < e') :
    Calls Try.prog 97 #[.slice (some ⟨b, 0, none⟩) n cap, .int .i64 (a : Int), .int .i64 (m : Int), .int .i64 (e' : Int), .func (.func 79) #[] #[p, q]] w fun e w' => e = .returned (.tuple #[]) ∧ ∃ g', St W1 b n g' w' ∧ Mv g g' a e' ∧ Srt c g' a e' := by
  have hen := P.en
  have HK := hide K
  have HO := hide O
  have HP := hide P
  have H0 := hide h
  have ham : a < m := by omega
  have hma : ((m : Int) - (a : Int) == 1) = true := by rw [show (m : Int) - (a : Int) = 1 by omega]; rfl
  have HM := hide hm
  clear K O P h hm
  go_enter Try.func97, Try.ntmps97
  go_wp2
  go_loopg [10, 11] n (fun M i j wr => ∃ I J : Nat, I ≤ J ∧ m ≤ I ∧ J ≤ e' ∧ J - I ≤ M ∧ i = .int .i64 (I : Int) ∧ j = .int .i64 (J : Int) ∧ St W1 b n g wr ∧ (∀ x, m ≤ x → x < I → ltc c (g x) (g a)) ∧ (∀ x, J ≤ x → x < e' → ltc c (g a) (g x)))
  case atStart => exact ⟨m, e', by omega, Nat.le_refl _, Nat.le_refl _, by omega, rfl, rfl, H0.out, fun x h1 h2 => by omega, fun x h1 h2 => by omega⟩
  case round =>
    clear H0
    obtain ⟨I, J, hIJ, hI, hJ, hM, rfl, rfl, hs, hlo, hhi⟩ := hrel
    have HL := hide (And.intro hlo hhi)
    clear hlo hhi
    by_cases hlt : I < J
    · have hltz : (I : Int) < (J : Int) := by omega
      obtain ⟨H, hH⟩ : ∃ H : Nat, (I + J) / 2 = H := ⟨_, rfl⟩
      have hHz : ((I : Int) + (J : Int)) / 2 = (H : Int) := by omega
      have hX : H < n := by omega
      have hY : a < n := by omega
      have hR := HP.out.rng
      have HC := hide (HK.out.at_ hs hR hX hY)
      have KS := hide (hs.two hX hY)
      have HD0 : Hid (Below wr.heap.size wr wr.drew) := (Below.refl _ _).drew
      have HSW := hide hs
      obtain ⟨r, hr⟩ : ∃ r, c (g H) (g a) = r := ⟨_, rfl⟩
      obtain ⟨vX, hvX⟩ : ∃ v, g H = v := ⟨_, rfl⟩
      obtain ⟨vY, hvY⟩ : ∃ v, g a = v := ⟨_, rfl⟩
      rw [hr] at HC
      rw [hvX, hvY] at HC KS
      obtain ⟨lb, hlb⟩ : ∃ lb, decide (r < 0) = lb := ⟨_, rfl⟩
      have HLB : Hid (decide (c (g H) (g a) < 0) = lb) := by unfold Hid; rw [hr]; exact hlb
      have HLR := hide hlb
      have hXz : (H : Int) < (n : Int) := by omega
      have hYz : (a : Int) < (n : Int) := by omega
      clear hs hr hvX hvY hlb
      go_upto_region 5 with fail
      go_cut [50] from 40 to 50 (fun s wx => s = .bool lb ∧ Below wr.heap.size wr wx)
      case first =>
        have hlb := HLR.out
        go_region_held3 (fun W => Below wr.heap.size wr W ∧ W.cell? ⟨b, H, none⟩ = some (.int .i64 vX) ∧ W.cell? ⟨b, a, none⟩ = some (.int .i64 vY))
          (first | with_reducible exact KS.out _ HD0.out | with_reducible exact KS.out _ (by with_reducible assumption))
          (first | (go_at_call 79; refine (HC.out _ HD0.out).mono ?_; rintro e w5 ⟨rfl, hb5⟩))
        all_goals
          go_wp2
          go_meet
        all_goals
          case rel => exact ⟨rfl, hb5⟩
      case rest =>
      obtain ⟨rfl, hb9⟩ := hcut
      obtain ⟨W9, hW9⟩ : ∃ W9, W9 = wc := ⟨_, rfl⟩
      subst hW9
      have hs9 := HSW.out.next hb9
      have HS9 := hide hs9
      clear HC KS HD0 HSW HLR hXz hYz hb9
      go_upto_if 50 with fail
      cases lb
      case true =>
        have hl : ltc c (g H) (g a) := (HP.out.lt_iff (Nat.le_refl a) ham (by omega) (by omega)).1 (of_decide_eq_true HLB.out)
        have HN : Hid (∀ x, m ≤ x → x < H + 1 → ltc c (g x) (g a)) := fun x h1 h2 => by
          by_cases hx : x = H
          · rw [hx]; exact hl
          · exact Runs.tr HO.out HP.out.rng (by omega) hX hY (HP.out.s2 x H h1 (by omega) (by omega)) hl
        clear hs9 hl hR
        go_wp2
        go_roundg (J - (H + 1))
        case rel => exact ⟨H + 1, J, by omega, by omega, hJ, by omega, by go_num, rfl, HS9.out, HN.out, HL.out.2⟩
        case measure => omega
      case false =>
        have hl : ltc c (g a) (g H) := HP.out.tot HO.out (Nat.le_refl a) ham (by omega) (by omega) fun hh => of_decide_eq_false HLB.out ((HP.out.lt_iff (Nat.le_refl a) ham (by omega) (by omega)).2 hh)
        have HN : Hid (∀ x, H ≤ x → x < e' → ltc c (g a) (g x)) := fun x h1 h2 => by
          by_cases hx : x = H
          · rw [hx]; exact hl
          · exact Runs.tr HO.out HP.out.rng hY hX (by omega) hl (HP.out.s2 H x (by omega) (by omega) h2)
        clear hs9 hl hR
        go_wp2
        go_roundg (H - I)
        case rel => exact ⟨I, H, by omega, hI, by omega, by omega, rfl, rfl, HS9.out, HL.out.1, HN.out⟩
        case measure => omega
    · have hIe : J = I := by omega
      subst hIe
      have HS0 : Hid (St W1 b n (mvR g a (a + 1)) wr) := by unfold Hid; rw [mvR_self]; exact hs
      obtain ⟨wo, hwo⟩ : ∃ wo, wo = wr := ⟨_, rfl⟩
      subst hwo
      clear hs
      go_wp2
      go_loopg [13] (J - a) (fun M k wr => ∃ k' : Nat, a ≤ k' ∧ k' + 1 ≤ J ∧ M + k' = J ∧ k = .int .i64 (k' : Int) ∧ St W1 b n (mvR g a (k' + 1)) wr)
      case atStart => exact ⟨a, Nat.le_refl _, by omega, by omega, rfl, HS0.out⟩
      case round =>
        clear HS0
        obtain ⟨k', hk1, hk2, hM2, rfl, hs⟩ := hrel
        by_cases hlt2 : k' + 1 < J
        · have hkz : (k' : Int) < (J : Int) - 1 := by omega
          obtain ⟨k2, hk2'⟩ : ∃ k2 : Nat, k' + 1 = k2 := ⟨_, rfl⟩
          have hw2 : IntKind.i64.wrap ((k' : Int) + 1) = (k2 : Int) := by rw [show (k' : Int) + 1 = (k2 : Int) by omega]; exact IntWalk.i64_in _ ⟨by omega, by omega⟩
          have hX : k' < n := by omega
          have hY : k2 < n := by omega
          have hstep : swp (mvR g a k2) k' k2 = mvR g a (k2 + 1) := by rw [← hk2']; exact mvR_step g a k' hk1
          rw [hk2'] at hs
          obtain ⟨c1, f1⟩ := hs.row k' hX
          obtain ⟨c2, f2⟩ := hs.row k2 hY
          have HS1 : Hid (St W1 b n (mvR g a (k2 + 1)) ((wr.setCell ⟨b, k', none⟩ (.int .i64 ((mvR g a k2) k2))).setCell ⟨b, k2, none⟩ (.int .i64 ((mvR g a k2) k'))).drew) := by
            have := (hs.swap hX hY).drew
            rw [hstep] at this
            exact this
          have HS2 : Hid (St W1 b n (mvR g a (k2 + 1)) ((wr.setCell ⟨b, k2, none⟩ (.int .i64 ((mvR g a k2) k'))).setCell ⟨b, k', none⟩ (.int .i64 ((mvR g a k2) k2))).drew) := by
            have := (hs.swap' hX hY).drew
            rw [hstep] at this
            exact this
          generalize (mvR g a k2) k2 = x at *
          generalize (mvR g a k2) k' = y at *
          have hne1 : ¬ k' = k2 := by omega
          have hne2 : ¬ k2 = k' := by omega
          have hXz : (k' : Int) < (n : Int) := by omega
          have hYz : (k2 : Int) < (n : Int) := by omega
          clear hs hstep
          go_wp2
          go_region
          all_goals
            go_wp2
            go_roundg (J - k2)
            case rel => first | exact ⟨k2, by omega, by omega, by omega, by go_num, HS1.out⟩ | exact ⟨k2, by omega, by omega, by omega, by go_num, HS2.out⟩
            case measure => omega
        · have hke : k' + 1 = J := by omega
          have hkz : ¬ (k' : Int) < (J : Int) - 1 := by omega
          rw [hke] at hs
          have HF : Hid (∃ g', St W1 b n g' wr ∧ Mv g g' a e' ∧ Srt c g' a e') := by
            have hm1 := HM.out
            refine ⟨mvR g a J, hs, mvR_mv g (by omega) hJ, mvR_srt HO.out HP.out.rng (by omega) hJ hen (by rw [← hm1]; exact HP.out.s2) (fun x h1 h2 => HL.out.1 x (by omega) h2) HL.out.2⟩
          clear hs
          go_wp2
          exact bodyPost_ret (v := .tuple #[]) (by simp [results, Try.results97, go_sem]) rfl ⟨rfl, HF.out⟩
set_option maxHeartbeats 8000000 in
theorem symLast_79 {W1 w : World} {b n cap a m e' : Nat} {g : Nat → Int} {p q : Value} {c : Int → Int → Int} (K : CmpOk W1 b n 79 p q c) (O : OrdN n c) (h : St W1 b n g w) (P : Runs n c g a m e') (hn : n ≤ 16384) (hm : ¬ m = a + 1) (ham : a < m) (he : e' = m + 1) :
    Calls Try.prog 97 #[.slice (some ⟨b, 0, none⟩) n cap, .int .i64 (a : Int), .int .i64 (m : Int), .int .i64 (e' : Int), .func (.func 79) #[] #[p, q]] w fun e w' => e = .returned (.tuple #[]) ∧ ∃ g', St W1 b n g' w' ∧ Mv g g' a e' ∧ Srt c g' a e' := by
  have hen := P.en
  have HK := hide K
  have HO := hide O
  have HP := hide P
  have H0 := hide h
  have hme : m < e' := by omega
  have hma : ((m : Int) - (a : Int) == 1) = false := beq_eq_false_iff_ne.2 (by omega)
  have hem : ((e' : Int) - (m : Int) == 1) = true := by rw [show (e' : Int) - (m : Int) = 1 by omega]; rfl
  have HE := hide he
  clear K O P h hm he
  go_enter Try.func97, Try.ntmps97
  go_wp2
  go_loopg [14, 15] n (fun M i j wr => ∃ I J : Nat, I ≤ J ∧ a ≤ I ∧ J ≤ m ∧ J - I ≤ M ∧ i = .int .i64 (I : Int) ∧ j = .int .i64 (J : Int) ∧ St W1 b n g wr ∧ (∀ x, a ≤ x → x < I → ltc c (g x) (g m)) ∧ (∀ x, J ≤ x → x < m → ltc c (g m) (g x)))
  case atStart => exact ⟨a, m, by omega, Nat.le_refl _, Nat.le_refl _, by omega, rfl, rfl, H0.out, fun x h1 h2 => by omega, fun x h1 h2 => by omega⟩
  case round =>
    clear H0
    obtain ⟨I, J, hIJ, hI, hJ, hM, rfl, rfl, hs, hlo, hhi⟩ := hrel
    have HL := hide (And.intro hlo hhi)
    clear hlo hhi
    by_cases hlt : I < J
    · have hltz : (I : Int) < (J : Int) := by omega
      obtain ⟨H, hH⟩ : ∃ H : Nat, (I + J) / 2 = H := ⟨_, rfl⟩
      have hHz : ((I : Int) + (J : Int)) / 2 = (H : Int) := by omega
      have hX : m < n := by omega
      have hY : H < n := by omega
      have hR := HP.out.rng
      have HC := hide (HK.out.at_ hs hR hX hY)
      have KS := hide (hs.two hX hY)
      have HD0 : Hid (Below wr.heap.size wr wr.drew) := (Below.refl _ _).drew
      have HSW := hide hs
      obtain ⟨r, hr⟩ : ∃ r, c (g m) (g H) = r := ⟨_, rfl⟩
      obtain ⟨vX, hvX⟩ : ∃ v, g m = v := ⟨_, rfl⟩
      obtain ⟨vY, hvY⟩ : ∃ v, g H = v := ⟨_, rfl⟩
      rw [hr] at HC
      rw [hvX, hvY] at HC KS
      obtain ⟨lb, hlb⟩ : ∃ lb, decide (r < 0) = lb := ⟨_, rfl⟩
      have HLB : Hid (decide (c (g m) (g H) < 0) = lb) := by unfold Hid; rw [hr]; exact hlb
      have HLR := hide hlb
      have hXz : (m : Int) < (n : Int) := by omega
      have hYz : (H : Int) < (n : Int) := by omega
      clear hs hr hvX hvY hlb
      go_upto_region 17 with fail
      go_cut [103] from 92 to 103 (fun s wx => s = .bool (!lb) ∧ Below wr.heap.size wr wx)
      case first =>
        have hlb := HLR.out
        go_region_held3 (fun W => Below wr.heap.size wr W ∧ W.cell? ⟨b, m, none⟩ = some (.int .i64 vX) ∧ W.cell? ⟨b, H, none⟩ = some (.int .i64 vY))
          (first | with_reducible exact KS.out _ HD0.out | with_reducible exact KS.out _ (by with_reducible assumption))
          (first | (go_at_call 79; refine (HC.out _ HD0.out).mono ?_; rintro e w5 ⟨rfl, hb5⟩))
        all_goals
          go_wp2
          go_meet
        all_goals
          case rel => exact ⟨rfl, hb5⟩
      case rest =>
      obtain ⟨rfl, hb9⟩ := hcut
      obtain ⟨W9, hW9⟩ : ∃ W9, W9 = wc := ⟨_, rfl⟩
      subst hW9
      have hs9 := HSW.out.next hb9
      have HS9 := hide hs9
      clear HC KS HD0 HSW HLR hXz hYz hb9
      go_upto_if 103 with fail
      cases lb
      case false =>
        have hl : ltc c (g H) (g m) := HP.out.tot HO.out (by omega) (by omega) (Nat.le_refl m) hme fun hh => of_decide_eq_false HLB.out ((HP.out.lt_iff (by omega) (by omega) (Nat.le_refl m) hme).2 hh)
        have HN : Hid (∀ x, a ≤ x → x < H + 1 → ltc c (g x) (g m)) := fun x h1 h2 => by
          by_cases hx : x = H
          · rw [hx]; exact hl
          · exact Runs.tr HO.out HP.out.rng (by omega) hY hX (HP.out.s1 x H h1 (by omega) (by omega)) hl
        clear hs9 hl hR
        go_wp2
        go_roundg (J - (H + 1))
        case rel => exact ⟨H + 1, J, by omega, by omega, hJ, by omega, by go_num, rfl, HS9.out, HN.out, HL.out.2⟩
        case measure => omega
      case true =>
        have hl : ltc c (g m) (g H) := (HP.out.lt_iff (by omega) (by omega) (Nat.le_refl m) hme).1 (of_decide_eq_true HLB.out)
        have HN : Hid (∀ x, H ≤ x → x < m → ltc c (g m) (g x)) := fun x h1 h2 => by
          by_cases hx : x = H
          · rw [hx]; exact hl
          · exact Runs.tr HO.out HP.out.rng hX hY (by omega) hl (HP.out.s1 H x (by omega) (by omega) h2)
        clear hs9 hl hR
        go_wp2
        go_roundg (H - I)
        case rel => exact ⟨I, H, by omega, hI, by omega, by omega, rfl, rfl, HS9.out, HL.out.1, HN.out⟩
        case measure => omega
    · have hIe : J = I := by omega
      subst hIe
      have HS0 : Hid (St W1 b n (ins g m m) wr) := by unfold Hid; rw [ins_self]; exact hs
      obtain ⟨wo, hwo⟩ : ∃ wo, wo = wr := ⟨_, rfl⟩
      subst hwo
      clear hs
      go_wp2
      go_loopg [17] (m + 1) (fun M k wr => ∃ k' : Nat, J ≤ k' ∧ k' ≤ m ∧ M = k' + 1 ∧ k = .int .i64 (k' : Int) ∧ St W1 b n (ins g m k') wr)
      case atStart => exact ⟨m, by omega, Nat.le_refl _, rfl, rfl, HS0.out⟩
      case round =>
        clear HS0
        obtain ⟨k', hk1, hk2, hM2, rfl, hs⟩ := hrel
        by_cases hlt2 : J < k'
        · have hkz : (J : Int) < (k' : Int) := by omega
          obtain ⟨k2, hk2'⟩ : ∃ k2 : Nat, k' - 1 = k2 := ⟨_, rfl⟩
          have hw2 : IntKind.i64.wrap ((k' : Int) - 1) = (k2 : Int) := by rw [show (k' : Int) - 1 = (k2 : Int) by omega]; exact IntWalk.i64_in _ ⟨by omega, by omega⟩
          have hX : k' < n := by omega
          have hY : k2 < n := by omega
          have hstep : swp (ins g m k') k' k2 = ins g m k2 := by rw [← hk2']; exact ins_step g m k' (by omega) hk2
          obtain ⟨c1, f1⟩ := hs.row k' hX
          obtain ⟨c2, f2⟩ := hs.row k2 hY
          have HS1 : Hid (St W1 b n (ins g m k2) ((wr.setCell ⟨b, k', none⟩ (.int .i64 ((ins g m k') k2))).setCell ⟨b, k2, none⟩ (.int .i64 ((ins g m k') k'))).drew) := by
            have := (hs.swap hX hY).drew
            rw [hstep] at this
            exact this
          have HS2 : Hid (St W1 b n (ins g m k2) ((wr.setCell ⟨b, k2, none⟩ (.int .i64 ((ins g m k') k'))).setCell ⟨b, k', none⟩ (.int .i64 ((ins g m k') k2))).drew) := by
            have := (hs.swap' hX hY).drew
            rw [hstep] at this
            exact this
          generalize (ins g m k') k2 = x at *
          generalize (ins g m k') k' = y at *
          have hne1 : ¬ k' = k2 := by omega
          have hne2 : ¬ k2 = k' := by omega
          have hXz : (k' : Int) < (n : Int) := by omega
          have hYz : (k2 : Int) < (n : Int) := by omega
          clear hs hstep
          go_wp2
          go_region
          all_goals
            go_wp2
            go_roundg (k2 + 1)
            case rel => first | exact ⟨k2, by omega, by omega, rfl, by go_num, HS1.out⟩ | exact ⟨k2, by omega, by omega, rfl, by go_num, HS2.out⟩
            case measure => omega
        · have hke : k' = J := by omega
          subst hke
          have HF : Hid (∃ g', St W1 b n g' wr ∧ Mv g g' a e' ∧ Srt c g' a e') := by
            have he1 := HE.out
            rw [he1]
            exact ⟨ins g m k', hs, ins_mv g hI hJ, ins_srt HO.out HP.out.rng (by omega) hI hJ HP.out.s1 HL.out.2 fun h => HL.out.1 (k' - 1) (by omega) (by omega)⟩
          clear hs
          go_wp2
          exact bodyPost_ret (v := .tuple #[]) (by simp [results, Try.results97, go_sem]) rfl ⟨rfl, HF.out⟩
set_option maxHeartbeats 16000000 in
theorem symMore_79 {W1 w : World} {b n cap a m e' d : Nat} {g : Nat → Int} {p q : Value} {c : Int → Int → Int} (K : CmpOk W1 b n 79 p q c) (O : OrdN n c) (IH : SymC d W1 b n cap p q c 79) (h : St W1 b n g w) (P : Runs n c g a m e') (hn : n ≤ 16384) (hm : a + 2 ≤ m) (he : m + 2 ≤ e') (hd : e' - a ≤ d + 1) :
    Calls Try.prog 97 #[.slice (some ⟨b, 0, none⟩) n cap, .int .i64 (a : Int), .int .i64 (m : Int), .int .i64 (e' : Int), .func (.func 79) #[] #[p, q]] w fun e w' => e = .returned (.tuple #[]) ∧ ∃ g', St W1 b n g' w' ∧ Mv g g' a e' ∧ Srt c g' a e' := by
  have hen := P.en
  have HK := hide K
  have HO := hide O
  have HP := hide P
  have H0 := hide h
  have HIH := hide IH
  have hma : ((m : Int) - (a : Int) == 1) = false := beq_eq_false_iff_ne.2 (by omega)
  have hem : ((e' : Int) - (m : Int) == 1) = false := beq_eq_false_iff_ne.2 (by omega)
  obtain ⟨D, hD⟩ : ∃ D : Nat, (a + e') / 2 = D := ⟨_, rfl⟩
  have hDz : ((a : Int) + (e' : Int)) / 2 = (D : Int) := by omega
  obtain ⟨PP, hPP⟩ : ∃ PP : Nat, D + m - 1 = PP := ⟨_, rfl⟩
  obtain ⟨lo, hlo⟩ : ∃ lo : Nat, (if D < m then D + m - e' else a) = lo := ⟨_, rfl⟩
  obtain ⟨hi, hhi⟩ : ∃ hi : Nat, (if D < m then D else m) = hi := ⟨_, rfl⟩
  have Q : Part n c g a m e' D lo hi PP := part_of (by omega) (by omega) hD.symm (by omega) (by
    rw [← hlo, ← hhi]
    by_cases hh : D < m
    · rw [if_pos hh, if_pos hh]; exact Or.inl ⟨hh, by omega, rfl⟩
    · rw [if_neg hh, if_neg hh]; exact Or.inr ⟨by omega, rfl, rfl⟩)
  have HQ := hide Q
  have hDa : a < D ∧ D < e' := by omega
  have HPP : Hid (PP + 1 = D + m) := by unfold Hid; omega
  have HLH : Hid ((D < m → lo + e' = D + m ∧ hi = D) ∧ (¬ D < m → lo = a ∧ hi = m)) := by
    rw [← hlo, ← hhi]
    exact ⟨fun hh => by rw [if_pos hh, if_pos hh]; exact ⟨by omega, rfl⟩, fun hh => by rw [if_neg hh, if_neg hh]; exact ⟨rfl, rfl⟩⟩
  have him := Q.him
  have halo := Q.alo
  have hlohi := Q.lohi
  have hhiD := Q.hiD
  have HD := hide hD
  obtain ⟨NN, hNN⟩ : ∃ NN : Nat, D + m = NN := ⟨_, rfl⟩
  have hNz : (D : Int) + (m : Int) = (NN : Int) := by omega
  have HNN := hide hNN
  have hNb : NN ≤ 32768 := by omega
  have hNm : m < NN := by omega
  have hNPz : (NN : Int) - 1 = (PP : Int) := by omega
  clear K O P h IH hlo hhi Q hPP hNN hD
  obtain ⟨dm, hdm⟩ : ∃ dm, decide (D < m) = dm := ⟨_, rfl⟩
  go_enter Try.func97, Try.ntmps97
  go_upto_if 140 with fail
  go_cut [20, 21] from 141 to 146 (fun s r wx => s = .int .i64 (lo : Int) ∧ r = .int .i64 (hi : Int) ∧ wx = w)
  case first =>
    cases dm
    case true =>
      have hh := HLH.out.1 (of_decide_eq_true hdm)
      have HE : Hid ((NN : Int) - (e' : Int) = (lo : Int) ∧ (D : Int) = (hi : Int)) := by have := HNN.out; exact ⟨by omega, by omega⟩
      clear hh
      go_wp2
      go_meet
      exact ⟨by rw [← HE.out.1], by rw [HE.out.2], rfl⟩
    case false =>
      have hh := HLH.out.2 (of_decide_eq_false hdm)
      have HE : Hid ((a : Int) = (lo : Int) ∧ (m : Int) = (hi : Int)) := ⟨by omega, by omega⟩
      clear hh
      go_wp2
      go_meet
      exact ⟨by rw [HE.out.1], by rw [HE.out.2], rfl⟩
  case rest =>
  obtain ⟨rfl, rfl, hwc⟩ := hcut
  have hwc' := hwc.symm
  subst hwc'
  clear hwc
  go_wp2
  go_loopg [20, 21] n (fun M i j wr => ∃ I J : Nat, I ≤ J ∧ lo ≤ I ∧ J ≤ hi ∧ J - I ≤ M ∧ i = .int .i64 (I : Int) ∧ j = .int .i64 (J : Int) ∧ St W1 b n g wr ∧ (∀ x, lo ≤ x → x < I → ltc c (g x) (g (PP - x))) ∧ (∀ x, J ≤ x → x < hi → ltc c (g (PP - x)) (g x)))
  case atStart => exact ⟨lo, hi, hlohi, Nat.le_refl _, Nat.le_refl _, by omega, rfl, rfl, H0.out, fun x h1 h2 => by omega, fun x h1 h2 => by omega⟩
  case round =>
    clear H0
    obtain ⟨I, J, hIJ, hI, hJ, hM, rfl, rfl, hs, hll, hhh⟩ := hrel
    have HL := hide (And.intro hll hhh)
    clear hll hhh
    by_cases hlt : I < J
    · have hltz : (I : Int) < (J : Int) := by omega
      obtain ⟨H, hH⟩ : ∃ H : Nat, (I + J) / 2 = H := ⟨_, rfl⟩
      have hHz : ((I : Int) + (J : Int)) / 2 = (H : Int) := by omega
      have hdom := HQ.out.dom H (by omega) (by omega)
      obtain ⟨PC, hPC⟩ : ∃ PC : Nat, PP - H = PC := ⟨_, rfl⟩
      have hwp : IntKind.i64.wrap ((PP : Int) - (H : Int)) = (PC : Int) := by rw [show (PP : Int) - (H : Int) = (PC : Int) by omega]; exact IntWalk.i64_in _ ⟨by omega, by omega⟩
      have hX : PC < n := by omega
      have hY : H < n := by omega
      have hR := HP.out.rng
      have HPC := hide hPC
      have HDM : Hid (a ≤ H ∧ H < m ∧ m ≤ PC ∧ PC < e') := ⟨by omega, by omega, by omega, by omega⟩
      clear hdom hPC
      have HC := hide (HK.out.at_ hs hR hX hY)
      have KS := hide (hs.two hX hY)
      have HD0 : Hid (Below wr.heap.size wr wr.drew) := (Below.refl _ _).drew
      have HSW := hide hs
      obtain ⟨r, hr⟩ : ∃ r, c (g PC) (g H) = r := ⟨_, rfl⟩
      obtain ⟨vX, hvX⟩ : ∃ v, g PC = v := ⟨_, rfl⟩
      obtain ⟨vY, hvY⟩ : ∃ v, g H = v := ⟨_, rfl⟩
      rw [hr] at HC
      rw [hvX, hvY] at HC KS
      obtain ⟨lb, hlb⟩ : ∃ lb, decide (r < 0) = lb := ⟨_, rfl⟩
      have HLB : Hid (decide (c (g PC) (g H) < 0) = lb) := by unfold Hid; rw [hr]; exact hlb
      have HLR := hide hlb
      have hXz : (PC : Int) < (n : Int) := by omega
      have hYz : (H : Int) < (n : Int) := by omega
      clear hs hr hvX hvY hlb
      go_upto_region 35 with fail
      go_cut [171] from 158 to 171 (fun s wx => s = .bool (!lb) ∧ Below wr.heap.size wr wx)
      case first =>
        have hlb := HLR.out
        go_region_held3 (fun W => Below wr.heap.size wr W ∧ W.cell? ⟨b, PC, none⟩ = some (.int .i64 vX) ∧ W.cell? ⟨b, H, none⟩ = some (.int .i64 vY))
          (first | with_reducible exact KS.out _ HD0.out | with_reducible exact KS.out _ (by with_reducible assumption))
          (first | (go_at_call 79; refine (HC.out _ HD0.out).mono ?_; rintro e w5 ⟨rfl, hb5⟩))
        all_goals
          go_wp2
          go_meet
        all_goals
          case rel => exact ⟨rfl, hb5⟩
      case rest =>
      obtain ⟨rfl, hb9⟩ := hcut
      obtain ⟨W9, hW9⟩ : ∃ W9, W9 = wc := ⟨_, rfl⟩
      subst hW9
      have hs9 := HSW.out.next hb9
      have HS9 := hide hs9
      clear HC KS HD0 HSW HLR hXz hYz hb9
      go_upto_if 171 with fail
      have hdm2 := HDM.out
      cases lb
      case false =>
        have hl : ltc c (g H) (g PC) := HP.out.tot HO.out hdm2.1 hdm2.2.1 hdm2.2.2.1 hdm2.2.2.2 fun hh => of_decide_eq_false HLB.out ((HP.out.lt_iff hdm2.1 hdm2.2.1 hdm2.2.2.1 hdm2.2.2.2).2 hh)
        have HN : Hid (∀ x, lo ≤ x → x < H + 1 → ltc c (g x) (g (PP - x))) := step_lo HO.out HP.out HQ.out (by omega) (by omega) (by rw [HPC.out]; exact hl)
        clear hs9 hl hR hdm2
        go_wp2
        go_roundg (J - (H + 1))
        case rel => exact ⟨H + 1, J, by omega, by omega, hJ, by omega, by go_num, rfl, HS9.out, HN.out, HL.out.2⟩
        case measure => omega
      case true =>
        have hl : ltc c (g PC) (g H) := (HP.out.lt_iff hdm2.1 hdm2.2.1 hdm2.2.2.1 hdm2.2.2.2).1 (of_decide_eq_true HLB.out)
        have HN : Hid (∀ x, H ≤ x → x < hi → ltc c (g (PP - x)) (g x)) := step_hi HO.out HP.out HQ.out (by omega) (by omega) (by rw [HPC.out]; exact hl)
        clear hs9 hl hR hdm2
        go_wp2
        go_roundg (H - I)
        case rel => exact ⟨I, H, by omega, hI, by omega, by omega, rfl, rfl, HS9.out, HL.out.1, HN.out⟩
        case measure => omega
    · have hIe : J = I := by omega
      subst hIe
      obtain ⟨E, hE⟩ : ∃ E : Nat, NN - J = E := ⟨_, rfl⟩
      have hEz : (NN : Int) - (J : Int) = (E : Int) := by have := HNN.out; omega
      obtain ⟨haS, hSD, hDE, hEe, P1, P2, hcr⟩ := sym_split HO.out (E := E) HP.out HQ.out (by omega) (by omega) hI hJ (by have := HNN.out; omega) HL.out.1 HL.out.2
      have hmE : J ≤ m ∧ m ≤ E := by have := HNN.out; omega
      have HSPL := hide (And.intro P1 (And.intro P2 hcr))
      have HMV : Hid (Mv g (rotF g J m E) a e') := (rot_mv g hmE.1 hmE.2).wide haS hEe
      obtain ⟨G, hG⟩ : ∃ G, rotF g J m E = G := ⟨_, rfl⟩
      rw [hG] at HSPL HMV
      have HS := hide hs
      have HGG := hide hG
      obtain ⟨wo, hwo⟩ : ∃ wo, wo = wr := ⟨_, rfl⟩
      subst hwo
      clear P1 P2 hcr hs hG hE HL
      obtain ⟨rb, hrb⟩ : ∃ rb, decide (J < m ∧ m < E) = rb := ⟨_, rfl⟩
      have HRB := hide hrb
      clear hrb
      go_upto_region 39 with fail
      go_cut [185] from 178 to 185 (fun s wx => s = .bool rb ∧ wx = wo)
      case first =>
        by_cases h1 : J < m
        · have h1z : (J : Int) < (m : Int) := by omega
          by_cases h2 : m < E
          · have h2z : (m : Int) < (E : Int) := by omega
            have hb : rb = true := by rw [← HRB.out]; exact decide_eq_true ⟨h1, h2⟩
            subst hb
            go_wp2
            go_meet
            exact ⟨rfl, rfl⟩
          · have h2z : ¬ (m : Int) < (E : Int) := by omega
            have hb : rb = false := by rw [← HRB.out]; exact decide_eq_false fun h => h2 h.2
            subst hb
            go_wp2
            go_meet
            exact ⟨rfl, rfl⟩
        · have h1z : ¬ (J : Int) < (m : Int) := by omega
          have hb : rb = false := by rw [← HRB.out]; exact decide_eq_false fun h => h1 h.1
          subst hb
          go_wp2
          go_meet
          exact ⟨rfl, rfl⟩
      case rest =>
      obtain ⟨rfl, hwc⟩ := hcut
      have hwc' := hwc.symm
      subst hwc'
      clear hwc
      go_upto_if 185 with fail
      go_cut [185] from 185 to 191 (fun s wx => St W1 b n G wx)
      case first =>
        cases rb
        case true =>
          have hh := of_decide_eq_true HRB.out
          have C := rotate_any (c := cap) (.func (.func 79) #[] #[p, q]) HS.out hn hh.1 hh.2 (by omega)
          rw [HGG.out] at C
          clear hh
          go_wp2_with fail
          refine C.mono ?_
          clear C
          rintro e w5 ⟨rfl, hs5⟩
          have HS5 := hide hs5
          clear hs5
          go_wp2
          go_meet
          exact HS5.out
        case false =>
          have hh := of_decide_eq_false HRB.out
          have HS5 : Hid (St W1 b n G wo) := by
            unfold Hid
            rw [← HGG.out, rot_triv g hmE.1 hmE.2 (by omega)]
            exact HS.out
          clear hh
          go_wp2
          go_meet
          exact HS5.out
      case rest =>
      have HSG := hide hcut
      obtain ⟨W6, hW6⟩ : ∃ W6, W6 = wc := ⟨_, rfl⟩
      subst hW6
      clear hcut HS
      obtain ⟨r1, hr1⟩ : ∃ rb, decide (a < J ∧ J < D) = rb := ⟨_, rfl⟩
      have HR1 := hide hr1
      clear hr1
      go_upto_region 41 with fail
      go_cut [199] from 192 to 199 (fun s wx => s = .bool r1 ∧ wx = W6)
      case first =>
        by_cases h1 : a < J
        · have h1z : (a : Int) < (J : Int) := by omega
          by_cases h2 : J < D
          · have h2z : (J : Int) < (D : Int) := by omega
            have hb : r1 = true := by rw [← HR1.out]; exact decide_eq_true ⟨h1, h2⟩
            subst hb
            go_wp2
            go_meet
            exact ⟨rfl, rfl⟩
          · have h2z : ¬ (J : Int) < (D : Int) := by omega
            have hb : r1 = false := by rw [← HR1.out]; exact decide_eq_false fun h => h2 h.2
            subst hb
            go_wp2
            go_meet
            exact ⟨rfl, rfl⟩
        · have h1z : ¬ (a : Int) < (J : Int) := by omega
          have hb : r1 = false := by rw [← HR1.out]; exact decide_eq_false fun h => h1 h.1
          subst hb
          go_wp2
          go_meet
          exact ⟨rfl, rfl⟩
      case rest =>
      obtain ⟨rfl, hwc⟩ := hcut
      have hwc' := hwc.symm
      subst hwc'
      clear hwc
      go_upto_if 199 with fail
      go_cut [199] from 199 to 205 (fun s wx => ∃ g1, St W1 b n g1 wx ∧ Mv G g1 a D ∧ Srt c g1 a D)
      case first =>
        cases r1
        case true =>
          have hh := of_decide_eq_true HR1.out
          have C := HIH.out a J D G W6 (by omega) hh.1 hh.2 HSG.out HSPL.out.1
          clear hh
          go_wp2_with fail
          refine C.mono ?_
          clear C
          rintro e w5 ⟨rfl, hs5⟩
          have HS5 := hide hs5
          clear hs5
          go_wp2
          go_meet
          exact HS5.out
        case false =>
          have hh := of_decide_eq_false HR1.out
          have HS5 : Hid (∃ g1, St W1 b n g1 W6 ∧ Mv G g1 a D ∧ Srt c g1 a D) := ⟨G, HSG.out, Mv.refl _ _ _, HSPL.out.1.whole (by omega)⟩
          clear hh
          go_wp2
          go_meet
          exact HS5.out
      case rest =>
      obtain ⟨g1, hs1, hmv1, hsr1⟩ := hcut
      obtain ⟨W7, hW7⟩ : ∃ W7, W7 = wc := ⟨_, rfl⟩
      subst hW7
      have HG1 := hide (And.intro hmv1 hsr1)
      have HS1 := hide hs1
      have P2' : Runs n c g1 D E e' := by
        have P := HSPL.out.2.1
        refine ⟨P.am, P.me, P.en, hmv1.rng (by omega) P.rng, fun i j h1 h2 h3 => ?_, fun i j h1 h2 h3 => ?_, fun i j h1 h2 h3 h4 => ?_⟩
        · rw [hmv1.out i (by omega), hmv1.out j (by omega)]; exact P.s1 i j h1 h2 h3
        · rw [hmv1.out i (by omega), hmv1.out j (by omega)]; exact P.s2 i j h1 h2 h3
        · rw [hmv1.out i (by omega), hmv1.out j (by omega)]; exact P.lr i j h1 h2 h3 h4
      have HP2 := hide P2'
      clear hs1 hmv1 hsr1 P2' HSG
      obtain ⟨r2, hr2⟩ : ∃ rb, decide (D < E ∧ E < e') = rb := ⟨_, rfl⟩
      have HR2 := hide hr2
      clear hr2
      go_upto_region 43 with fail
      go_cut [213] from 206 to 213 (fun s wx => s = .bool r2 ∧ wx = W7)
      case first =>
        by_cases h1 : D < E
        · have h1z : (D : Int) < (E : Int) := by omega
          by_cases h2 : E < e'
          · have h2z : (E : Int) < (e' : Int) := by omega
            have hb : r2 = true := by rw [← HR2.out]; exact decide_eq_true ⟨h1, h2⟩
            subst hb
            go_wp2
            go_meet
            exact ⟨rfl, rfl⟩
          · have h2z : ¬ (E : Int) < (e' : Int) := by omega
            have hb : r2 = false := by rw [← HR2.out]; exact decide_eq_false fun h => h2 h.2
            subst hb
            go_wp2
            go_meet
            exact ⟨rfl, rfl⟩
        · have h1z : ¬ (D : Int) < (E : Int) := by omega
          have hb : r2 = false := by rw [← HR2.out]; exact decide_eq_false fun h => h1 h.1
          subst hb
          go_wp2
          go_meet
          exact ⟨rfl, rfl⟩
      case rest =>
      obtain ⟨rfl, hwc⟩ := hcut
      have hwc' := hwc.symm
      subst hwc'
      clear hwc
      have HEND : Hid (∀ W g2, St W1 b n g2 W → Mv g1 g2 D e' → Srt c g2 D e' → ∃ g', St W1 b n g' W ∧ Mv g g' a e' ∧ Srt c g' a e') := fun W g2 h1 h2 h3 => by
        obtain ⟨j1, j2⟩ := sym_join (n := n) (by omega) (by omega) HSPL.out.2.2 HG1.out.1 HG1.out.2 h2 h3
        exact ⟨g2, h1, HMV.out.trans j2, j1⟩
      cases r2
      case true =>
        have hh := of_decide_eq_true HR2.out
        have C := HIH.out D E e' g1 W7 (by omega) hh.1 hh.2 HS1.out HP2.out
        clear hh
        go_wp2_with fail
        refine C.mono ?_
        clear C
        rintro e w5 ⟨rfl, g2, hs5, hm5, hr5⟩
        have HS5 := hide (HEND.out _ _ hs5 hm5 hr5)
        clear hs5 hm5 hr5
        go_wp2
        go_end0
        exact ⟨rfl, HS5.out⟩
      case false =>
        have hh := of_decide_eq_false HR2.out
        have HS5 := hide (HEND.out W7 g1 HS1.out (Mv.refl _ _ _) (HP2.out.whole (by omega)))
        clear hh
        go_wp2
        go_end0
        exact ⟨rfl, HS5.out⟩
theorem symMerge_79 {W1 : World} {b n cap : Nat} {p q : Value} {c : Int → Int → Int} (K : CmpOk W1 b n 79 p q c) (O : OrdN n c) (hn : n ≤ 16384) (d : Nat) : SymC d W1 b n cap p q c 79 := by
  induction d with
  | zero => intro a m e' g w h1 h2 h3; omega
  | succ d ih =>
    intro a m e' g w h1 h2 h3 hs P
    by_cases c1 : m = a + 1
    · exact symOne_79 K O hs P hn c1 h3
    · by_cases c2 : e' = m + 1
      · exact symLast_79 K O hs P hn c1 h2 c2
      · exact symMore_79 K O ih hs P hn (by omega) (by omega) h1
end Go.Proofs.Ytimkcpbgnoekcaa
namespace Go.Proofs.Ytimkcpbgnoekcaa
set_option linter.unusedVariables false
set_option maxRecDepth 100000
/-- A block of a row whose numbers are the block's own, in order. -/
def Blk (c : Int → Int → Int) (f : Nat → Int) (A E : Nat) : Prop := Srt c f A E ∧ ∀ i, A ≤ i → i < E → (A : Int) ≤ f i ∧ f i < (E : Int)
/-- Each block of so many is in order. -/
def Blks (c : Int → Int → Int) (f : Nat → Int) (s n : Nat) : Prop := ∀ k, k * s < n → Blk c f (k * s) (min (k * s + s) n)
theorem Blk.mv {c : Int → Int → Int} {f g : Nat → Int} {A E A' E' : Nat} (h : Blk c f A E) (hm : Mv f g A' E') (hd : E ≤ A' ∨ E' ≤ A) : Blk c g A E := by
  refine ⟨fun i j h1 h2 h3 => ?_, fun i h1 h2 => ?_⟩
  · rw [hm.out i (by omega), hm.out j (by omega)]; exact h.1 i j h1 h2 h3
  · rw [hm.out i (by omega)]; exact h.2 i h1 h2
theorem Blk.runs {n : Nat} {c : Int → Int → Int} {f : Nat → Int} {a m e : Nat} (h1 : Blk c f a m) (h2 : Blk c f m e) (R : Rng n f) (ham : a ≤ m) (hme : m ≤ e) (hen : e ≤ n) : Runs n c f a m e :=
  ⟨ham, hme, hen, R, h1.1, h2.1, fun i j a1 a2 a3 a4 => by have := h1.2 i a1 a2; have := h2.2 j a3 a4; omega⟩
theorem Blk.join {c : Int → Int → Int} {f g : Nat → Int} {a m e : Nat} (h1 : Blk c f a m) (h2 : Blk c f m e) (hm : Mv f g a e) (hs : Srt c g a e) (ham : a ≤ m) (hme : m ≤ e) : Blk c g a e := by
  refine ⟨hs, fun i b1 b2 => ?_⟩
  obtain ⟨j, c1, c2, c3⟩ := hm.img i b1 b2
  rw [c3]
  by_cases h : j < m
  · have := h1.2 j c1 h; omega
  · have := h2.2 j (by omega) c2; omega
/-- The first blocks are merged two by two, the others as they were. -/
def Half (c : Int → Int → Int) (f : Nat → Int) (s n A : Nat) : Prop := (∀ k, k * (2 * s) < A → Blk c f (k * (2 * s)) (min (k * (2 * s) + 2 * s) n)) ∧ ∀ k, A ≤ k * s → k * s < n → Blk c f (k * s) (min (k * s + s) n)
/-- The blocks up to a place are in order, behind it each number stands at its own place. -/
def Fore (c : Int → Int → Int) (f : Nat → Int) (A : Nat) : Prop := (∀ k, k * 20 < A → Blk c f (k * 20) (k * 20 + 20)) ∧ ∀ i, A ≤ i → f i = (i : Int)
theorem fore_step {c : Int → Int → Int} {f g : Nat → Int} {A t : Nat} (hA : t * 20 = A) (h : Fore c f A) (hm : Mv f g A (A + 20)) (hs : Srt c g A (A + 20)) : Fore c g (A + 20) := by
  refine ⟨fun k hk => ?_, fun i hi => by rw [hm.out i (by omega)]; exact h.2 i (by omega)⟩
  by_cases hkt : k = t
  · subst hkt
    rw [hA]
    refine ⟨hs, fun i b1 b2 => ?_⟩
    obtain ⟨j, c1, c2, c3⟩ := hm.img i b1 b2
    rw [c3, h.2 j c1]; omega
  · exact (h.1 k (by omega)).mv hm (Or.inl (by omega))
theorem fore_end {c : Int → Int → Int} {f g : Nat → Int} {A t n : Nat} (hA : t * 20 = A) (hAn : A ≤ n) (hn : n < A + 20) (h : Fore c f A) (hm : Mv f g A n) (hs : Srt c g A n) : Blks c g 20 n := by
  intro k hk
  by_cases hkt : k = t
  · subst hkt
    rw [hA, show min (A + 20) n = n by omega]
    refine ⟨hs, fun i b1 b2 => ?_⟩
    obtain ⟨j, c1, c2, c3⟩ := hm.img i b1 b2
    rw [c3, h.2 j c1]; omega
  · rw [show min (k * 20 + 20) n = k * 20 + 20 by omega]
    exact (h.1 k (by omega)).mv hm (Or.inl (by omega))
theorem half_start {c : Int → Int → Int} {f : Nat → Int} {s n : Nat} (h : Blks c f s n) : Half c f s n 0 := ⟨fun k hk => by omega, fun k _ hk => h k hk⟩
theorem two_mul (u s : Nat) : 2 * u * s = u * (2 * s) := by rw [Nat.mul_comm 2 u, Nat.mul_assoc]
theorem two_mul1 (u s : Nat) : (2 * u + 1) * s = u * (2 * s) + s := by rw [Nat.succ_mul, two_mul]
theorem mul_lt_of {k u s : Nat} (h : k * s < u * s) : k < u := Nat.lt_of_mul_lt_mul_right h
theorem half_step {n : Nat} {c : Int → Int → Int} {f : Nat → Int} {s A u : Nat} (hA : u * (2 * s) = A) (hs0 : 0 < s) (hn : A + 2 * s ≤ n) (R : Rng n f) (h : Half c f s n A) :
    Runs n c f A (A + s) (A + 2 * s) ∧ ∀ g, Mv f g A (A + 2 * s) → Srt c g A (A + 2 * s) → Half c g s n (A + 2 * s) := by
  have b1 := h.2 (2 * u) (by rw [two_mul, hA]; exact Nat.le_refl _) (by rw [two_mul, hA]; omega)
  have b2 := h.2 (2 * u + 1) (by rw [two_mul1, hA]; omega) (by rw [two_mul1, hA]; omega)
  rw [two_mul, hA, show min (A + s) n = A + s by omega] at b1
  rw [two_mul1, hA, show min (A + s + s) n = A + 2 * s by omega] at b2
  refine ⟨b1.runs b2 R (by omega) (by omega) hn, fun g hm hs => ⟨fun k hk => ?_, fun k hk1 hk2 => ?_⟩⟩
  · have hku : k < u + 1 := mul_lt_of (s := 2 * s) (by rw [Nat.succ_mul u, hA]; exact hk)
    by_cases e : k = u
    · subst e
      rw [hA, show min (A + 2 * s) n = A + 2 * s by omega]
      exact b1.join b2 hm hs (by omega) (by omega)
    · have h2 : (k + 1) * (2 * s) ≤ u * (2 * s) := Nat.mul_le_mul_right _ (by omega)
      rw [Nat.succ_mul, hA] at h2
      exact (h.1 k (by omega)).mv hm (Or.inl (by omega))
  · exact (h.2 k (by omega) hk2).mv hm (Or.inr hk1)
theorem half_last {n : Nat} {c : Int → Int → Int} {f : Nat → Int} {s A u : Nat} (hA : u * (2 * s) = A) (hs0 : 0 < s) (hn1 : A + s < n) (hn2 : n < A + 2 * s) (R : Rng n f) (h : Half c f s n A) :
    Runs n c f A (A + s) n ∧ ∀ g, Mv f g A n → Srt c g A n → Blks c g (s * 2) n := by
  have b1 := h.2 (2 * u) (by rw [two_mul, hA]; exact Nat.le_refl _) (by rw [two_mul, hA]; omega)
  have b2 := h.2 (2 * u + 1) (by rw [two_mul1, hA]; omega) (by rw [two_mul1, hA]; omega)
  rw [two_mul, hA, show min (A + s) n = A + s by omega] at b1
  rw [two_mul1, hA, show min (A + s + s) n = n by omega] at b2
  refine ⟨b1.runs b2 R (by omega) (by omega) (Nat.le_refl _), fun g hm hs k hk => ?_⟩
  rw [Nat.mul_comm s 2] at hk ⊢
  by_cases e : k = u
  · subst e
    rw [hA, show min (A + 2 * s) n = n by omega]
    exact b1.join b2 hm hs (by omega) (by omega)
  · have hku : k < u + 1 := mul_lt_of (s := 2 * s) (by rw [Nat.succ_mul u, hA]; omega)
    have h2 : (k + 1) * (2 * s) ≤ u * (2 * s) := Nat.mul_le_mul_right _ (by omega)
    rw [Nat.succ_mul, hA] at h2
    exact (h.1 k (by omega)).mv hm (Or.inl (by omega))
theorem half_done {n : Nat} {c : Int → Int → Int} {f : Nat → Int} {s A u : Nat} (hA : u * (2 * s) = A) (hs0 : 0 < s) (hn1 : n ≤ A + s) (h : Half c f s n A) : Blks c f (s * 2) n := by
  intro k hk
  rw [Nat.mul_comm s 2] at hk ⊢
  by_cases e : k = u
  · subst e
    have b1 := h.2 (2 * k) (by rw [two_mul, hA]; exact Nat.le_refl _) (by rw [two_mul]; exact hk)
    rw [two_mul] at b1
    rw [show min (k * (2 * s) + 2 * s) n = min (k * (2 * s) + s) n by omega]
    exact b1
  · have hku : k < u + 1 := mul_lt_of (s := 2 * s) (by rw [Nat.succ_mul u, hA]; omega)
    have h2 : (k + 1) * (2 * s) ≤ u * (2 * s) := Nat.mul_le_mul_right _ (by omega)
    rw [Nat.succ_mul, hA] at h2
    exact h.1 k (by omega)
theorem blks_end {n : Nat} {c : Int → Int → Int} {f : Nat → Int} {s : Nat} (hs : n ≤ s) (h : Blks c f s n) : Blk c f 0 n := by
  by_cases h0 : 0 < n
  · have := h 0 (by omega)
    rw [Nat.zero_mul, show min (0 + s) n = n by omega] at this
    exact this
  · exact ⟨fun i j h1 h2 h3 => by omega, fun i h1 h2 => by omega⟩
end Go.Proofs.Ytimkcpbgnoekcaa
namespace Go.Proofs.Ytimkcpbgnoekcaa
open Go.ChangeShapes Go.WideShapes Go.ChangeAt Go.RowKit
set_option linter.unusedVariables false
set_option maxRecDepth 100000
set_option maxHeartbeats 8000000 in
theorem stable_87 {W1 w : World} {b n cap : Nat} {p q : Value} {c : Int → Int → Int} (K : CmpOk W1 b n 87 p q c) (O : OrdN n c) (h : St W1 b n (fun i => (i : Int)) w) (hn : n ≤ 16384) :
    Calls Try.prog 89 #[.slice (some ⟨b, 0, none⟩) n cap, .int .i64 (n : Int), .func (.func 87) #[] #[p, q]] w fun e w' => e = .returned (.tuple #[]) ∧ ∃ g, St W1 b n g w' ∧ Blk c g 0 n := by
  have HK := hide K
  have HO := hide O
  have H0 := hide h
  clear K O h
  go_enter Try.func89, Try.ntmps89
  go_wp2
  go_loopg [7, 8] (n + 1) (fun M i j wr => ∃ (t A B : Nat) (f : Nat → Int), t * 20 = A ∧ A + 20 = B ∧ M + A = n + 1 ∧ A ≤ n ∧ i = .int .i64 (A : Int) ∧ j = .int .i64 (B : Int) ∧ St W1 b n f wr ∧ Fore c f A ∧ Rng n f)
  case atStart => exact ⟨0, 0, 20, fun i => (i : Int), rfl, rfl, rfl, Nat.zero_le _, rfl, rfl, H0.out, ⟨fun k hk => by omega, fun i _ => rfl⟩, fun i hi => ⟨by show (0 : Int) ≤ (i : Int); omega, by show (i : Int) < (n : Int); omega⟩⟩
  case round =>
    clear H0
    obtain ⟨t, A, B, f, hA, hB, hM, hAn, rfl, rfl, hs, hF, hR⟩ := hrel
    have HT := hide (And.intro hA hB)
    have HFR := hide (And.intro hF hR)
    by_cases hle : B ≤ n
    · have hlez : (B : Int) ≤ (n : Int) := by omega
      have C := insertion_87 (cap := cap) (a := A) (e' := B) HK.out HO.out hs hR hn (by omega) hle (fun i j h1 h2 h3 => by rw [hF.2 i h1, hF.2 j (by omega)]; omega)
      clear hs hF hR hA hB
      go_wp2_with fail
      refine C.mono ?_
      clear C
      rintro e w5 ⟨rfl, g, hs5, hm5, hr5⟩
      have ht := HT.out
      rw [← ht.2] at hm5 hr5
      have HN : Hid (∃ (t' : Nat), t' * 20 = B ∧ St W1 b n g w5 ∧ Fore c g B ∧ Rng n g) := by
        refine ⟨t + 1, by omega, hs5, ?_, hm5.rng (by omega) HFR.out.2⟩
        rw [← ht.2]
        exact fore_step ht.1 HFR.out.1 hm5 hr5
      clear hs5 hm5 hr5 ht
      go_wp2
      go_roundg (n + 1 - B)
      case rel =>
        obtain ⟨t', h1, h2, h3, h4⟩ := HN.out
        exact ⟨t', B, B + 20, g, h1, rfl, by omega, hle, rfl, by go_num, h2, h3, h4⟩
      case measure => have := HT.out; omega
    · have hlez : ¬ (B : Int) ≤ (n : Int) := by omega
      have C := insertion_87 (cap := cap) (a := A) (e' := n) HK.out HO.out hs hR hn hAn (Nat.le_refl _) (fun i j h1 h2 h3 => by rw [hF.2 i h1, hF.2 j (by omega)]; omega)
      clear hs hF hR hA hB
      go_wp2_with fail
      refine C.mono ?_
      clear C
      rintro e w5 ⟨rfl, g, hs5, hm5, hr5⟩
      have HN : Hid (St W1 b n g w5 ∧ Blks c g 20 n ∧ Rng n g) := by
        have ht := HT.out
        exact ⟨hs5, fore_end ht.1 hAn (by omega) HFR.out.1 hm5 hr5, hm5.rng (Nat.le_refl _) HFR.out.2⟩
      clear hs5 hm5 hr5 HFR HT hM hAn hle hlez
      go_wp2
      go_loopg [6, 7, 8, 9] (n + 1) (fun M i _a _b _c wr => ∃ (s : Nat) (f : Nat → Int), 0 < s ∧ s ≤ 40000 ∧ n + 1 ≤ M + s ∧ i = .int .i64 (s : Int) ∧ St W1 b n f wr ∧ Blks c f s n ∧ Rng n f)
      case atStart => exact ⟨20, g, by omega, by omega, by omega, rfl, HN.out⟩
      case round =>
        clear HN
        obtain ⟨s, f, hs0, hs4, hM, rfl, hs, hB, hR⟩ := hrel
        by_cases hlt : s < n
        · have hltz : (s : Int) < (n : Int) := by omega
          have HSB : Hid (St W1 b n f wr ∧ Half c f s n 0 ∧ Rng n f) := ⟨hs, half_start hB, hR⟩
          obtain ⟨wo, hwo⟩ : ∃ wo, wo = wr := ⟨_, rfl⟩
          subst hwo
          clear hs hB hR
          go_wp2
          go_loopg [7, 8] (n + 1) (fun M i j wr => ∃ (u A B : Nat) (f : Nat → Int), u * (2 * s) = A ∧ A + 2 * s = B ∧ M + A = n + 1 ∧ A ≤ n ∧ i = .int .i64 (A : Int) ∧ j = .int .i64 (B : Int) ∧ St W1 b n f wr ∧ Half c f s n A ∧ Rng n f)
          case atStart => exact ⟨0, 0, 2 * s, f, by omega, by omega, rfl, by omega, rfl, by go_num, HSB.out⟩
          case round =>
            clear HSB
            obtain ⟨u, A, B, f, hA, hB, hM2, hAn, rfl, rfl, hs, hF, hR⟩ := hrel
            have HT := hide (And.intro hA hB)
            obtain ⟨M1, hM1⟩ : ∃ M1 : Nat, A + s = M1 := ⟨_, rfl⟩
            have hM1z : (A : Int) + (s : Int) = (M1 : Int) := by omega
            by_cases hle : B ≤ n
            · have hlez : (B : Int) ≤ (n : Int) := by omega
              obtain ⟨hru, hst⟩ := half_step hA hs0 (by omega) hR hF
              have HST := hide hst
              rw [hM1, hB] at hru
              have C := symMerge_87 (cap := cap) HK.out HO.out hn (B - A) A M1 B f wr (Nat.le_refl _) (by omega) (by omega) hs hru
              have HR := hide hR
              have HM1 := hide hM1
              clear hs hF hR hA hB hru hst hM1
              go_wp2_with fail
              refine C.mono ?_
              clear C
              rintro e w5 ⟨rfl, g, hs5, hm5, hr5⟩
              have HN : Hid (∃ (u' : Nat), u' * (2 * s) = B ∧ St W1 b n g w5 ∧ Half c g s n B ∧ Rng n g) := by
                have ht := HT.out
                have hR5 := hm5.rng hle HR.out
                rw [← ht.2] at hm5 hr5 ⊢
                exact ⟨u + 1, by rw [Nat.succ_mul, ht.1], hs5, HST.out g hm5 hr5, hR5⟩
              clear hs5 hm5 hr5
              go_wp2
              go_roundg (n + 1 - B)
              case rel =>
                obtain ⟨u', h1, h2, h3, h4⟩ := HN.out
                exact ⟨u', B, B + 2 * s, g, h1, rfl, by omega, hle, rfl, by go_num, h2, h3, h4⟩
              case measure => have := HT.out; omega
            · have hlez : ¬ (B : Int) ≤ (n : Int) := by omega
              by_cases hm : M1 < n
              · have hmz : (M1 : Int) < (n : Int) := by omega
                obtain ⟨hru, hst⟩ := half_last hA hs0 (by omega) (by omega) hR hF
                have HST := hide hst
                rw [hM1] at hru
                have C := symMerge_87 (cap := cap) HK.out HO.out hn (n - A) A M1 n f wr (Nat.le_refl _) (by omega) (by omega) hs hru
                have HR := hide hR
                clear hs hF hR hA hB hru hst hM1
                go_wp2_with fail
                refine C.mono ?_
                clear C
                rintro e w5 ⟨rfl, g, hs5, hm5, hr5⟩
                have HN : Hid (St W1 b n g w5 ∧ Blks c g (s * 2) n ∧ Rng n g) := ⟨hs5, HST.out g hm5 hr5, hm5.rng (Nat.le_refl _) HR.out⟩
                clear hs5 hm5 hr5
                go_wp2
                go_roundg (n + 1 - s * 2)
                case rel => exact ⟨s * 2, g, by omega, by omega, by omega, by go_num, HN.out⟩
                case measure => omega
              · have hmz : ¬ (M1 : Int) < (n : Int) := by omega
                have HN : Hid (St W1 b n f wr ∧ Blks c f (s * 2) n ∧ Rng n f) := ⟨hs, half_done hA hs0 (by omega) hF, hR⟩
                clear hs hF hR hA hB hM1
                go_wp2
                go_roundg (n + 1 - s * 2)
                case rel => exact ⟨s * 2, f, by omega, by omega, by omega, by go_num, HN.out⟩
                case measure => omega
        · have hltz : ¬ (s : Int) < (n : Int) := by omega
          have HF : Hid (∃ g, St W1 b n g wr ∧ Blk c g 0 n) := ⟨f, hs, blks_end (by omega) hB⟩
          clear hs hB hR
          go_wp2
          go_end0
          exact ⟨rfl, HF.out⟩
theorem sortStable_87 {W1 w : World} {b n cap : Nat} {p q : Value} {c : Int → Int → Int} (K : CmpOk W1 b n 87 p q c) (O : OrdN n c) (h : St W1 b n (fun i => (i : Int)) w) (hn : n ≤ 16384) :
    Calls Try.prog 78 #[.slice (some ⟨b, 0, none⟩) n cap, .func (.func 87) #[] #[p, q]] w fun e w' => e = .returned (.tuple #[]) ∧ ∃ g, St W1 b n g w' ∧ Blk c g 0 n := by
  have C := stable_87 (cap := cap) K O h hn
  clear K O h
  go_enter Try.func78, Try.ntmps78
  go_wp2_with fail
  refine C.mono ?_
  clear C
  rintro e w5 ⟨rfl, h5⟩
  have H5 := hide h5
  clear h5
  go_wp2
  go_end0
  exact ⟨rfl, H5.out⟩
set_option maxHeartbeats 8000000 in
theorem stable_79 {W1 w : World} {b n cap : Nat} {p q : Value} {c : Int → Int → Int} (K : CmpOk W1 b n 79 p q c) (O : OrdN n c) (h : St W1 b n (fun i => (i : Int)) w) (hn : n ≤ 16384) :
    Calls Try.prog 89 #[.slice (some ⟨b, 0, none⟩) n cap, .int .i64 (n : Int), .func (.func 79) #[] #[p, q]] w fun e w' => e = .returned (.tuple #[]) ∧ ∃ g, St W1 b n g w' ∧ Blk c g 0 n := by
  have HK := hide K
  have HO := hide O
  have H0 := hide h
  clear K O h
  go_enter Try.func89, Try.ntmps89
  go_wp2
  go_loopg [7, 8] (n + 1) (fun M i j wr => ∃ (t A B : Nat) (f : Nat → Int), t * 20 = A ∧ A + 20 = B ∧ M + A = n + 1 ∧ A ≤ n ∧ i = .int .i64 (A : Int) ∧ j = .int .i64 (B : Int) ∧ St W1 b n f wr ∧ Fore c f A ∧ Rng n f)
  case atStart => exact ⟨0, 0, 20, fun i => (i : Int), rfl, rfl, rfl, Nat.zero_le _, rfl, rfl, H0.out, ⟨fun k hk => by omega, fun i _ => rfl⟩, fun i hi => ⟨by show (0 : Int) ≤ (i : Int); omega, by show (i : Int) < (n : Int); omega⟩⟩
  case round =>
    clear H0
    obtain ⟨t, A, B, f, hA, hB, hM, hAn, rfl, rfl, hs, hF, hR⟩ := hrel
    have HT := hide (And.intro hA hB)
    have HFR := hide (And.intro hF hR)
    by_cases hle : B ≤ n
    · have hlez : (B : Int) ≤ (n : Int) := by omega
      have C := insertion_79 (cap := cap) (a := A) (e' := B) HK.out HO.out hs hR hn (by omega) hle (fun i j h1 h2 h3 => by rw [hF.2 i h1, hF.2 j (by omega)]; omega)
      clear hs hF hR hA hB
      go_wp2_with fail
      refine C.mono ?_
      clear C
      rintro e w5 ⟨rfl, g, hs5, hm5, hr5⟩
      have ht := HT.out
      rw [← ht.2] at hm5 hr5
      have HN : Hid (∃ (t' : Nat), t' * 20 = B ∧ St W1 b n g w5 ∧ Fore c g B ∧ Rng n g) := by
        refine ⟨t + 1, by omega, hs5, ?_, hm5.rng (by omega) HFR.out.2⟩
        rw [← ht.2]
        exact fore_step ht.1 HFR.out.1 hm5 hr5
      clear hs5 hm5 hr5 ht
      go_wp2
      go_roundg (n + 1 - B)
      case rel =>
        obtain ⟨t', h1, h2, h3, h4⟩ := HN.out
        exact ⟨t', B, B + 20, g, h1, rfl, by omega, hle, rfl, by go_num, h2, h3, h4⟩
      case measure => have := HT.out; omega
    · have hlez : ¬ (B : Int) ≤ (n : Int) := by omega
      have C := insertion_79 (cap := cap) (a := A) (e' := n) HK.out HO.out hs hR hn hAn (Nat.le_refl _) (fun i j h1 h2 h3 => by rw [hF.2 i h1, hF.2 j (by omega)]; omega)
      clear hs hF hR hA hB
      go_wp2_with fail
      refine C.mono ?_
      clear C
      rintro e w5 ⟨rfl, g, hs5, hm5, hr5⟩
      have HN : Hid (St W1 b n g w5 ∧ Blks c g 20 n ∧ Rng n g) := by
        have ht := HT.out
        exact ⟨hs5, fore_end ht.1 hAn (by omega) HFR.out.1 hm5 hr5, hm5.rng (Nat.le_refl _) HFR.out.2⟩
      clear hs5 hm5 hr5 HFR HT hM hAn hle hlez
      go_wp2
      go_loopg [6, 7, 8, 9] (n + 1) (fun M i _a _b _c wr => ∃ (s : Nat) (f : Nat → Int), 0 < s ∧ s ≤ 40000 ∧ n + 1 ≤ M + s ∧ i = .int .i64 (s : Int) ∧ St W1 b n f wr ∧ Blks c f s n ∧ Rng n f)
      case atStart => exact ⟨20, g, by omega, by omega, by omega, rfl, HN.out⟩
      case round =>
        clear HN
        obtain ⟨s, f, hs0, hs4, hM, rfl, hs, hB, hR⟩ := hrel
        by_cases hlt : s < n
        · have hltz : (s : Int) < (n : Int) := by omega
          have HSB : Hid (St W1 b n f wr ∧ Half c f s n 0 ∧ Rng n f) := ⟨hs, half_start hB, hR⟩
          obtain ⟨wo, hwo⟩ : ∃ wo, wo = wr := ⟨_, rfl⟩
          subst hwo
          clear hs hB hR
          go_wp2
          go_loopg [7, 8] (n + 1) (fun M i j wr => ∃ (u A B : Nat) (f : Nat → Int), u * (2 * s) = A ∧ A + 2 * s = B ∧ M + A = n + 1 ∧ A ≤ n ∧ i = .int .i64 (A : Int) ∧ j = .int .i64 (B : Int) ∧ St W1 b n f wr ∧ Half c f s n A ∧ Rng n f)
          case atStart => exact ⟨0, 0, 2 * s, f, by omega, by omega, rfl, by omega, rfl, by go_num, HSB.out⟩
          case round =>
            clear HSB
            obtain ⟨u, A, B, f, hA, hB, hM2, hAn, rfl, rfl, hs, hF, hR⟩ := hrel
            have HT := hide (And.intro hA hB)
            obtain ⟨M1, hM1⟩ : ∃ M1 : Nat, A + s = M1 := ⟨_, rfl⟩
            have hM1z : (A : Int) + (s : Int) = (M1 : Int) := by omega
            by_cases hle : B ≤ n
            · have hlez : (B : Int) ≤ (n : Int) := by omega
              obtain ⟨hru, hst⟩ := half_step hA hs0 (by omega) hR hF
              have HST := hide hst
              rw [hM1, hB] at hru
              have C := symMerge_79 (cap := cap) HK.out HO.out hn (B - A) A M1 B f wr (Nat.le_refl _) (by omega) (by omega) hs hru
              have HR := hide hR
              have HM1 := hide hM1
              clear hs hF hR hA hB hru hst hM1
              go_wp2_with fail
              refine C.mono ?_
              clear C
              rintro e w5 ⟨rfl, g, hs5, hm5, hr5⟩
              have HN : Hid (∃ (u' : Nat), u' * (2 * s) = B ∧ St W1 b n g w5 ∧ Half c g s n B ∧ Rng n g) := by
                have ht := HT.out
                have hR5 := hm5.rng hle HR.out
                rw [← ht.2] at hm5 hr5 ⊢
                exact ⟨u + 1, by rw [Nat.succ_mul, ht.1], hs5, HST.out g hm5 hr5, hR5⟩
              clear hs5 hm5 hr5
              go_wp2
              go_roundg (n + 1 - B)
              case rel =>
                obtain ⟨u', h1, h2, h3, h4⟩ := HN.out
                exact ⟨u', B, B + 2 * s, g, h1, rfl, by omega, hle, rfl, by go_num, h2, h3, h4⟩
              case measure => have := HT.out; omega
            · have hlez : ¬ (B : Int) ≤ (n : Int) := by omega
              by_cases hm : M1 < n
              · have hmz : (M1 : Int) < (n : Int) := by omega
                obtain ⟨hru, hst⟩ := half_last hA hs0 (by omega) (by omega) hR hF
                have HST := hide hst
                rw [hM1] at hru
                have C := symMerge_79 (cap := cap) HK.out HO.out hn (n - A) A M1 n f wr (Nat.le_refl _) (by omega) (by omega) hs hru
                have HR := hide hR
                clear hs hF hR hA hB hru hst hM1
                go_wp2_with fail
                refine C.mono ?_
                clear C
                rintro e w5 ⟨rfl, g, hs5, hm5, hr5⟩
                have HN : Hid (St W1 b n g w5 ∧ Blks c g (s * 2) n ∧ Rng n g) := ⟨hs5, HST.out g hm5 hr5, hm5.rng (Nat.le_refl _) HR.out⟩
                clear hs5 hm5 hr5
                go_wp2
                go_roundg (n + 1 - s * 2)
                case rel => exact ⟨s * 2, g, by omega, by omega, by omega, by go_num, HN.out⟩
                case measure => omega
              · have hmz : ¬ (M1 : Int) < (n : Int) := by omega
                have HN : Hid (St W1 b n f wr ∧ Blks c f (s * 2) n ∧ Rng n f) := ⟨hs, half_done hA hs0 (by omega) hF, hR⟩
                clear hs hF hR hA hB hM1
                go_wp2
                go_roundg (n + 1 - s * 2)
                case rel => exact ⟨s * 2, f, by omega, by omega, by omega, by go_num, HN.out⟩
                case measure => omega
        · have hltz : ¬ (s : Int) < (n : Int) := by omega
          have HF : Hid (∃ g, St W1 b n g wr ∧ Blk c g 0 n) := ⟨f, hs, blks_end (by omega) hB⟩
          clear hs hB hR
          go_wp2
          go_end0
          exact ⟨rfl, HF.out⟩
theorem sortStable_79 {W1 w : World} {b n cap : Nat} {p q : Value} {c : Int → Int → Int} (K : CmpOk W1 b n 79 p q c) (O : OrdN n c) (h : St W1 b n (fun i => (i : Int)) w) (hn : n ≤ 16384) :
    Calls Try.prog 78 #[.slice (some ⟨b, 0, none⟩) n cap, .func (.func 79) #[] #[p, q]] w fun e w' => e = .returned (.tuple #[]) ∧ ∃ g, St W1 b n g w' ∧ Blk c g 0 n := by
  have C := stable_79 (cap := cap) K O h hn
  clear K O h
  go_enter Try.func78, Try.ntmps78
  go_wp2_with fail
  refine C.mono ?_
  clear C
  rintro e w5 ⟨rfl, h5⟩
  have H5 := hide h5
  clear h5
  go_wp2
  go_end0
  exact ⟨rfl, H5.out⟩
end Go.Proofs.Ytimkcpbgnoekcaa
