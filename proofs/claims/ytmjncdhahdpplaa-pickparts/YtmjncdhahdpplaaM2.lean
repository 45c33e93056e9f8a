/-
  The contracts of layer 3's Deep and of the document's: how many boxes lie within one another; for all arrays that are thin.
  What a call of layer 3's statements is told of a slice of numbers that came in: it is a row of numbers; and Places' answer as one row and one error.
  What a call of layer 3's statements is told of an array or a cell that came in: it is one of the plain arrays or cells, as deep as it may be; no condition.
  Small things that layer 3's statements over arrays share: a value of two or three cells, what a call finds of its own boxed arguments later on.
  An array is the same as itself, and the arrays that Atom and Nums make may be: the plain mathematics of it; and a slice of int64 that came in, as a row.
  Layer 5's plain mathematics: steps along axes, places turned round, shapes that may be, arrays made of others' cells; no program is named.
  The contracts of layer 5's strides and of the library's Reverse, over rows of the call's own.
  The contract of layer 5's gather: the cells that the steps lead to, in the order of the places.
  The contract of layer 5's gather: the cells that the steps lead to, in the order of the places.
  Layer 5's answers as plain data, and what a call's own memory holds while it goes on: the boxed argument, the answer's place.
  The contracts of layer 5's axes, tally, isCount and upTo.
-/
import Derived.Test.YtmjncdhahdpplaaM1
import Derived.OpenShut
import Derived.ChangeOld
import Derived.SizedLaws
import Derived.Deep.Slices
import Derived.Deep.Strs
import Derived.Deep.LoopGhost
namespace Go.Proofs.Ytmjncdhahdpplaa
open Go.ChangeShapes Go.WideShapes Go.ChangeAt Go.RowKit
set_option linter.unusedVariables false
set_option maxRecDepth 100000
/-- The greatest of 0 and the first m. -/
def maxUp (f : Nat → Int) : Nat → Int
  | 0 => 0
  | m + 1 => max (maxUp f m) (f m)
def deepF (g : Ar → Int) (x : Ar) (i : Nat) : Int := if 0 < (cAt x.cells i).2.2.length then 1 + g (bAt (cAt x.cells i).2.2 0) else 0
/-- How many boxes lie within one another. -/
def deepA : Nat → Ar → Int
  | 0, _ => 0
  | n + 1, x => maxUp (deepF (deepA n) x) x.cells.length
theorem maxUp_le {f : Nat → Int} {m : Nat} {B : Int} (hB : 0 ≤ B) (h : ∀ i, i < m → f i ≤ B) : maxUp f m ≤ B := by
  induction m with
  | zero => exact hB
  | succ m ih =>
    have := ih fun i hi => h i (by omega)
    have := h m (by omega)
    simp only [maxUp]
    omega
theorem maxUp_nonneg (f : Nat → Int) (m : Nat) : 0 ≤ maxUp f m := by
  induction m with
  | zero => simp [maxUp]
  | succ m ih => simp only [maxUp]; omega
theorem deep_nonneg (n : Nat) (x : Ar) : 0 ≤ deepA n x := by
  cases n with
  | zero => simp [deepA]
  | succ n => exact maxUp_nonneg _ _
theorem deep_thin (n d : Nat) (x : Ar) (h : Thin d x) : deepA n x ≤ (d : Int) := by
  induction n generalizing d x with
  | zero => simp [deepA]
  | succ n ih =>
    refine maxUp_le (by omega) fun i hi => ?_
    unfold deepF
    by_cases hb : 0 < (cAt x.cells i).2.2.length
    · rw [if_pos hb]
      cases d with
      | zero => exact (h i hi 0 hb).elim
      | succ d =>
        have := ih d _ (h i hi 0 hb)
        omega
    · rw [if_neg hb]; omega
/-- What the reckoning of the depth promises. -/
def DeepC (k n : Nat) : Prop := ∀ (d : Nat) x lo va w, d ≤ 16 → Thin d x → ArIn n lo w x va → Calls Try.prog k #[va] w fun e w' => e = .returned (.int .i64 (deepA n x)) ∧ Below w.heap.size w w'
theorem deep_cells {k n lo d : Nat} {w : World} {x : Ar} {a2 : Option Addr} (IH : DeepC k n) (hd : d ≤ 16) (ht : Thin d x) (hc : CellsIn n lo w x.cells a2) (i : Nat) (hi : i < x.cells.length) :
    ∃ b off z0 z1 ab nb cb, a2 = some ⟨b, off, none⟩ ∧ (∀ wr, Below w.heap.size w wr → wr.cell? ⟨b, off + i * 3, none⟩ = some (.int .i64 z0) ∧ wr.cell? ⟨b, off + i * 3 + 1, none⟩ = some (.int .i64 z1) ∧ wr.cell? ⟨b, off + i * 3 + 2, none⟩ = some (.slice ab nb cb)) ∧ nb ≤ 5864062014805 ∧
      (nb = 0 → deepF (deepA n) x i = 0) ∧ (0 < nb → ∃ bb ob u0 u1 r, ab = some ⟨bb, ob, none⟩ ∧ deepF (deepA n) x i = 1 + r ∧ 0 ≤ r ∧ r ≤ 16 ∧ ∀ wr, Below w.heap.size w wr → wr.cell? ⟨bb, ob, none⟩ = some u0 ∧ wr.cell? ⟨bb, ob + 1, none⟩ = some u1 ∧ Calls Try.prog k #[.agg #[u0, u1]] wr fun e w' => e = .returned (.int .i64 r) ∧ Below wr.heap.size wr w') := by
  rcases hc with hc | ⟨b, off, ha, hlo, hb, hc⟩
  · rw [hc] at hi; simp at hi
  obtain ⟨v0, v1, v2, e0, e1, e2, rfl, rfl, ab, cb, rfl, hl, hx⟩ := hc i hi
  refine ⟨b, off, _, _, ab, _, cb, ha, fun wr hw => ⟨(hw.cell (p := ⟨b, off + i * 3, none⟩) hb).trans e0, (hw.cell (p := ⟨b, off + i * 3 + 1, none⟩) hb).trans e1, (hw.cell (p := ⟨b, off + i * 3 + 2, none⟩) hb).trans e2⟩, hl, fun h => by unfold deepF; rw [if_neg (by omega)], ?_⟩
  intro hnb
  rcases hx with hx | ⟨bb, ob, rfl, hlo', hbb, hx⟩
  · rw [hx] at hnb; simp at hnb
  obtain ⟨u0, u1, g0, g1, g2⟩ := hx 0 hnb
  simp only [Nat.zero_mul, Nat.add_zero] at g0 g1
  cases d with
  | zero => exact (ht i hi 0 hnb).elim
  | succ d =>
    have ht' : Thin d (bAt (cAt x.cells i).2.2 0) := ht i hi 0 hnb
    refine ⟨bb, ob, u0, u1, deepA n (bAt (cAt x.cells i).2.2 0), rfl, by unfold deepF; rw [if_pos hnb], deep_nonneg _ _, ?_, ?_⟩
    · have := deep_thin n d _ ht'
      omega
    · intro wr hw
      exact ⟨(hw.cell (p := ⟨bb, ob, none⟩) hbb).trans g0, (hw.cell (p := ⟨bb, ob + 1, none⟩) hbb).trans g1, IH d _ lo _ wr (by omega) ht' (g2.next hw)⟩
set_option maxHeartbeats 2000000 in
theorem deep_any (n : Nat) : DeepC 65 n := by
  induction n with
  | zero => intro d x lo va w _ _ hx; exact hx.elim
  | succ n IH =>
    intro d x lo va w hd ht hx
    obtain ⟨a1, c1, a2, c2, rfl, R, hl, hc⟩ := hx
    have HC := hide (deep_cells IH hd ht hc)
    have HB0 := hide (one_alloc w (.cells #[.slice a1 x.shape.length c1, .slice a2 x.cells.length c2] 25))
    have HM : Hid (∀ j, j ≤ x.cells.length → 0 ≤ maxUp (deepF (deepA n) x) j ∧ maxUp (deepF (deepA n) x) j ≤ 100) := fun j hj => ⟨maxUp_nonneg _ _, maxUp_le (by omega) fun i hi => by
      obtain ⟨b, off, z0, z1, ab, nb, cb, -, -, -, g1, g2⟩ := HC.out i (by omega)
      rcases Nat.eq_zero_or_pos nb with h | h
      · rw [g1 h]; omega
      · obtain ⟨_, _, _, _, r, _, e, _, _, _⟩ := g2 h
        rw [e]; omega⟩
    have HS : Hid (∀ j, maxUp (deepF (deepA n) x) (j + 1) = max (maxUp (deepF (deepA n) x) j) (deepF (deepA n) x j)) := fun _ => rfl
    have H0 : Hid (maxUp (deepF (deepA n) x) 0 = 0) := rfl
    show Calls _ _ _ _ fun e w' => e = .returned (.int .i64 (maxUp (deepF (deepA n) x) x.cells.length)) ∧ _
    clear R hc IH ht
    generalize deepF (deepA n) x = F at *
    generalize x.shape.length = SA at *
    generalize x.cells.length = CA at *
    go_enter Try.func65, Try.ntmps65
    go_wp2
    go_loopw [3, 9] (fun m i wr => ∃ j : Nat, j ≤ CA ∧ i = .int .i64 (j : Int) ∧ m = .int .i64 (maxUp F j) ∧ Below w.heap.size w wr) (fun _ i _ => CA - (intOf i).toNat)
    case atStart => exact ⟨0, Nat.zero_le _, rfl, by rw [H0.out], HB0.out⟩
    case round =>
      clear HB0
      obtain ⟨j, hj, rfl, rfl, hnx⟩ := hrel
      by_cases hlt : j < CA
      · obtain ⟨b, off, z0, z1, ab, nb, cb, rfl, hcs, hnb, g1, g2⟩ := HC.out j hlt
        obtain ⟨k0, k1, k2⟩ := hcs wr hnx
        have hms := HS.out j
        have hm := HM.out j hj
        have hnx' := fun o => hnx.alloc hnx.size o
        rcases Nat.eq_zero_or_pos nb with h | h
        · have e0 := g1 h
          subst h
          have E : Hid (maxUp F (j + 1) = maxUp F j) := by show _ = _; rw [hms, e0]; omega
          have HX := hide hnx'
          clear hcs g1 g2 HC HM HS hms hm e0 hnx'
          generalize maxUp F j = m at *
          go_wp2
          go_roundw
          case rel => exact ⟨j + 1, by omega, by go_num, by rw [E.out], HX.out _⟩
          case measure => simp [intOf]; omega
        · obtain ⟨bb, ob, u0, u1, r, rfl, e0, hr0, hr1, hcs2⟩ := g2 h
          have E : Hid (maxUp F (j + 1) = max (maxUp F j) (1 + r)) := by show _ = _; rw [hms, e0]
          have G0 := fun o => (hcs2 _ (hnx' o)).1
          have G1 := fun o => (hcs2 _ (hnx' o)).2.1
          have C : Hid (∀ o, Calls Try.prog 65 #[.agg #[u0, u1]] (wr.alloc o) fun e w' => e = .returned (.int .i64 r) ∧ Below w.heap.size w w') := fun o => ((hcs2 _ (hnx' o)).2.2).mono fun e w' ⟨he, hb⟩ => ⟨he, (hnx' o).trans (hb.mono (hnx' o).size)⟩
          obtain ⟨m0, m1⟩ := hm
          clear hcs g1 g2 HC HM HS hms e0 hnx' hcs2
          generalize maxUp F j = m at *
          go_wp2_with fail
          refine (C.out _).mono ?_
          rintro e w1 ⟨rfl, hb1⟩
          go_wp2
          all_goals
            go_roundw
            case rel => exact ⟨j + 1, by omega, by go_num, by rw [E.out]; first | rfl | (congr 1; omega), hb1⟩
            case measure => simp [intOf]; omega
      · have hje : j = CA := by omega
        subst hje
        clear HC HM HS
        go_wp2
        go_ret
        exact ⟨rfl, hnx⟩
set_option maxHeartbeats 2000000 in
theorem rdeep_any (n : Nat) : DeepC 70 n := by
  induction n with
  | zero => intro d x lo va w _ _ hx; exact hx.elim
  | succ n IH =>
    intro d x lo va w hd ht hx
    obtain ⟨a1, c1, a2, c2, rfl, R, hl, hc⟩ := hx
    have HC := hide (deep_cells IH hd ht hc)
    have HB0 := hide (one_alloc w (.cells #[.slice a1 x.shape.length c1, .slice a2 x.cells.length c2] 25))
    have HM : Hid (∀ j, j ≤ x.cells.length → 0 ≤ maxUp (deepF (deepA n) x) j ∧ maxUp (deepF (deepA n) x) j ≤ 100) := fun j hj => ⟨maxUp_nonneg _ _, maxUp_le (by omega) fun i hi => by
      obtain ⟨b, off, z0, z1, ab, nb, cb, -, -, -, g1, g2⟩ := HC.out i (by omega)
      rcases Nat.eq_zero_or_pos nb with h | h
      · rw [g1 h]; omega
      · obtain ⟨_, _, _, _, r, _, e, _, _, _⟩ := g2 h
        rw [e]; omega⟩
    have HS : Hid (∀ j, maxUp (deepF (deepA n) x) (j + 1) = max (maxUp (deepF (deepA n) x) j) (deepF (deepA n) x j)) := fun _ => rfl
    have H0 : Hid (maxUp (deepF (deepA n) x) 0 = 0) := rfl
    show Calls _ _ _ _ fun e w' => e = .returned (.int .i64 (maxUp (deepF (deepA n) x) x.cells.length)) ∧ _
    clear R hc IH ht
    generalize deepF (deepA n) x = F at *
    generalize x.shape.length = SA at *
    generalize x.cells.length = CA at *
    go_enter Try.func70, Try.ntmps70
    go_wp2
    go_loopw [3, 4] (fun m i wr => ∃ j : Nat, j ≤ CA ∧ i = .int .i64 (j : Int) ∧ m = .int .i64 (maxUp F j) ∧ Below w.heap.size w wr ∧ wr.cell? ⟨w.heap.size, 1, none⟩ = some (.slice a2 CA c2) ∧ w.heap.size < wr.heap.size) (fun _ i _ => CA - (intOf i).toNat)
    case atStart => exact ⟨0, Nat.zero_le _, rfl, by rw [H0.out], HB0.out, cell_new0 w _ 25 1 _ rfl, by simp⟩
    case round =>
      clear HB0
      obtain ⟨j, hj, rfl, rfl, hnx, hcl, hsz⟩ := hrel
      have HSZ := hide hsz
      clear hsz
      by_cases hlt : j < CA
      · obtain ⟨b, off, z0, z1, ab, nb, cb, rfl, hcs, hnb, g1, g2⟩ := HC.out j hlt
        obtain ⟨k0, k1, k2⟩ := hcs wr hnx
        have hms := HS.out j
        have hm := HM.out j hj
        rcases Nat.eq_zero_or_pos nb with h | h
        · have e0 := g1 h
          subst h
          have E : Hid (maxUp F (j + 1) = maxUp F j) := by show _ = _; rw [hms, e0]; omega
          clear hcs g1 g2 HC HM HS hms hm e0
          generalize maxUp F j = m at *
          go_wp2
          go_roundw
          case rel => exact ⟨j + 1, by omega, by go_num, by rw [E.out], hnx, hcl, HSZ.out⟩
          case measure => simp [intOf]; omega
        · obtain ⟨bb, ob, u0, u1, r, rfl, e0, hr0, hr1, hcs2⟩ := g2 h
          have E : Hid (maxUp F (j + 1) = max (maxUp F j) (1 + r)) := by show _ = _; rw [hms, e0]
          obtain ⟨G0, G1, C⟩ := hcs2 wr hnx
          obtain ⟨m0, m1⟩ := hm
          have hnz : ¬ (nb : Int) = 0 := by omega
          clear hcs g1 g2 HC HM HS hms e0 hcs2
          generalize maxUp F j = m at *
          by_cases hgt : m < 1 + r
          · have E' : Hid (maxUp F (j + 1) = 1 + r) := by show _ = _; rw [E.out]; omega
            go_wp2_with fail
            refine C.mono ?_
            rintro e w1 ⟨rfl, hb1⟩
            have B1 := hnx.trans (hb1.mono hnx.size)
            have q1 := (hb1.cell (p := ⟨w.heap.size, 1, none⟩) HSZ.out).trans hcl
            have HS1 := hide (Nat.lt_of_lt_of_le HSZ.out hb1.size)
            clear C hb1 hnx hcl
            go_wp2
            go_roundw
            case rel => exact ⟨j + 1, by omega, by go_num, by rw [E'.out], B1, q1, HS1.out⟩
            case measure => simp [intOf]; omega
          · have E' : Hid (maxUp F (j + 1) = m) := by show _ = _; rw [E.out]; omega
            go_wp2_with fail
            refine C.mono ?_
            rintro e w1 ⟨rfl, hb1⟩
            have B1 := hnx.trans (hb1.mono hnx.size)
            have q1 := (hb1.cell (p := ⟨w.heap.size, 1, none⟩) HSZ.out).trans hcl
            have HS1 := hide (Nat.lt_of_lt_of_le HSZ.out hb1.size)
            clear C hb1 hnx hcl
            go_wp2
            go_roundw
            case rel => exact ⟨j + 1, by omega, by go_num, by rw [E'.out], B1, q1, HS1.out⟩
            case measure => simp [intOf]; omega
      · have hje : j = CA := by omega
        subst hje
        clear HC HM HS
        go_wp2
        go_ret
        exact ⟨rfl, hnx⟩
end Go.Proofs.Ytmjncdhahdpplaa
namespace Go.Proofs.Ytmjncdhahdpplaa
open Go.ChangeShapes Go.WideShapes Go.ChangeAt Go.RowKit
set_option linter.unusedVariables false
theorem own : ownKnob Try.prog.godebug = none := by kernel_rfl
theorem laidOut : laidOutB Try.prog = true := by kernel_rfl
theorem bytes3 : Try.prog.bytesOf 3 = 8 := by kernel_rfl
/-- What Places tells: the places, and the error. -/
def plsL (l : List Int) (n : Int) : List Int := if sizeE l = 0 ∧ 0 ≤ n ∧ n < sizeV l then digits l n else []
def plsE (l : List Int) (n : Int) : Int := if sizeE l = 0 then (if 0 ≤ n ∧ n < sizeV l then 0 else 8) else sizeE l
theorem places_form {l : List Int} {n : Int} {w w' : World} {e : Ending} (h : PlacesIs l n w e w') :
    (∃ a, e = .returned (.tuple #[.slice a (plsL l n).length (plsL l n).length, .int .i64 (plsE l n)]) ∧ Row w.heap.size w' a (plsL l n)) ∧ Below w.heap.size w w' := by
  obtain ⟨hb, h1, h2, h3⟩ := h
  refine ⟨?_, hb⟩
  by_cases hs : sizeE l = 0
  · by_cases ho : 0 ≤ n ∧ n < sizeV l
    · obtain ⟨b, he, hr, -⟩ := h3 hs ho.1 ho.2
      have e1 : plsL l n = digits l n := by unfold plsL; rw [if_pos ⟨hs, ho⟩]
      have e2 : plsE l n = 0 := by unfold plsE; rw [if_pos hs, if_pos ho]
      rw [e1, e2, digits_length]
      exact ⟨_, he, hr⟩
    · have e1 : plsL l n = [] := by unfold plsL; rw [if_neg (fun h => ho h.2)]
      have e2 : plsE l n = 8 := by unfold plsE; rw [if_pos hs, if_neg ho]
      rw [e1, e2]
      exact ⟨none, h2 hs ho, row_nil _ _ _⟩
  · have e1 : plsL l n = [] := by unfold plsL; rw [if_neg (fun h => hs h.1)]
    have e2 : plsE l n = sizeE l := by unfold plsE; rw [if_neg hs]
    rw [e1, e2]
    exact ⟨none, h1 hs, row_nil _ _ _⟩
theorem pls_ok {l : List Int} {n : Int} (h : plsE l n = 0) : sizeE l = 0 ∧ 0 ≤ n ∧ n < sizeV l ∧ plsL l n = digits l n := by
  unfold plsE at h
  by_cases hs : sizeE l = 0
  · by_cases ho : 0 ≤ n ∧ n < sizeV l
    · exact ⟨hs, ho.1, ho.2, by unfold plsL; rw [if_pos ⟨hs, ho⟩]⟩
    · rw [if_pos hs, if_neg ho] at h; omega
  · rw [if_neg hs] at h; exact absurd h hs
theorem plc_ok {l m : List Int} (h : plcE l m = 0) : sizeE l = 0 ∧ inAxes l m ∧ plcV l m = place l m := by
  unfold plcE at h
  by_cases hs : sizeE l = 0
  · by_cases hl : m.length = l.length
    · by_cases hi : inAxes l m
      · exact ⟨hs, hi, by unfold plcV; rw [if_pos ⟨hs, hi⟩]⟩
      · simp [hs, hl, hi] at h
    · simp [hs, hl] at h
  · simp [hs] at h
/-- The places of the cell at places. -/
theorem there {l m : List Int} (h : plcE l m = 0) : plsE l (plcV l m) = 0 ∧ plsL l (plcV l m) = m := by
  obtain ⟨hs, hi, hv⟩ := plc_ok h
  obtain ⟨b1, b2, b3, b4⟩ := place_bound hi
  obtain ⟨s1, s2, s3⟩ := sizeE_ok hs
  have hz : ¬ hasZero l := by
    rintro ⟨z, hz, e⟩
    have := b1 z hz
    omega
  rcases s3 with s3 | ⟨-, s4⟩
  · exact absurd s3 hz
  have sv : sizeV l = prodL l := (size_ok s1 s2 hz (by omega)).1
  have hr : 0 ≤ plcV l m ∧ plcV l m < sizeV l := by rw [hv, sv]; exact ⟨b2, b3⟩
  refine ⟨by unfold plsE; rw [if_pos hs, if_pos hr], ?_⟩
  unfold plsL
  rw [if_pos ⟨hs, hr⟩, hv]
  exact digits_place hi
/-- The cell at the places of a cell. -/
theorem back {l : List Int} {n : Int} (h : plsE l n = 0) : plcE l (plsL l n) = 0 ∧ plcV l (plsL l n) = n := by
  obtain ⟨hs, h0, h1, hL⟩ := pls_ok h
  obtain ⟨s1, s2, s3, s4⟩ := sizeV_in hs h0 h1
  obtain ⟨d1, d2⟩ := digits_in s2 h0 (by omega)
  rw [hL]
  have hl := digits_length l n
  refine ⟨by unfold plcE; simp [hs, hl, d1], ?_⟩
  unfold plcV
  rw [if_pos ⟨hs, d1⟩]
  exact d2
/-- A slice of ints that came in, as a row. -/
theorem ints_row {H : Type} {enc : TypeId × Value → H} {W : World} {ts : List TypeId} {ds : List (DataW H)} {j : Nat} {d : DataW H} {a : Option Addr} {len cap : Nat} {p : List MemPlace}
    (hsz : (DataW.weightsEach Try.prog ts ds).all (· ≤ reachBytes) = true) (ht : ts[j]? = some 22) (hd : ds[j]? = some d)
    (h : DataW.Trod enc Try.prog W 0 (fun _ => true) true 22 (.slice a len cap) d p) : ∃ zs : List Int, zs.length = len ∧ Row 0 W a zs ∧ len * 8 ≤ 140737488351232 := by
  obtain ⟨fuel, hf⟩ := h
  rcases open_ints Try.underlying22 Try.underlying3 (by kernel_rfl) hf with ⟨hcs, hx⟩ | ⟨x, l, c, zs, hcs, _, hl, hm, hz, hx, hcell, hwz⟩
  · simp [Value.cells] at hcs
    obtain ⟨rfl, rfl, rfl⟩ := hcs
    exact ⟨[], rfl, row_nil _ _ _, by omega⟩
  · simp [Value.cells] at hcs
    obtain ⟨rfl, rfl, rfl⟩ := hcs
    have hd' := (Prod.mk.inj hx).1
    have hz' : zs.length = cap := by simpa using hz
    rw [hd'] at hd
    have hs := sized_slice hsz (j := j) (t := 22) (e := 3) ht hd Try.underlying22
    rw [bytes3] at hs
    simp only [lits, List.length_map, List.length_take, List.length_drop, reachBytes] at hs
    refine ⟨zs.take len, by rw [List.length_take]; omega, ?_, by omega⟩
    refine ⟨by rw [List.length_take]; omega, ?_⟩
    by_cases h0 : len = 0
    · left; subst h0; rfl
    · right
      obtain ⟨b, off, spot⟩ := x
      have hc0 := hcell 0 (by omega)
      have hspot : spot = none := by simpa [Addr.add] using World.cell?_spot hc0
      subst hspot
      refine ⟨b, off, rfl, Nat.zero_le _, ?_, ?_⟩
      · refine Decidable.byContradiction fun hb => ?_
        have : W.heap[b]? = none := by simp; omega
        simp [Addr.add, World.cell?, this] at hc0
      · intro i hi
        have hi' : i < len := by rw [List.length_take] at hi; omega
        have := hcell i (by omega)
        have ea : (⟨b, off, none⟩ : Addr).add i = ⟨b, off + i, none⟩ := by
          unfold Addr.add
          split
          · subst_vars; rfl
          · rfl
        rw [ea] at this
        rw [this]
        simp [hi']
end Go.Proofs.Ytmjncdhahdpplaa
namespace Go.Proofs.Ytmjncdhahdpplaa
open Go.ChangeShapes Go.WideShapes Go.ChangeAt Go.RowKit Go.Deep
set_option linter.unusedVariables false
set_option maxRecDepth 100000
theorem cells25 : Try.prog.cellsOf 25 = 2 := by kernel_rfl
theorem cells33 : Try.prog.cellsOf 36 = 3 := by kernel_rfl
theorem cells22 : Try.prog.cellsOf 22 = 1 := by kernel_rfl
theorem cells23 : Try.prog.cellsOf 23 = 1 := by kernel_rfl
theorem cells31 : Try.prog.cellsOf 34 = 1 := by kernel_rfl
theorem cells3 : Try.prog.cellsOf 3 = 1 := by kernel_rfl
theorem cells2 : Try.prog.cellsOf 2 = 1 := by kernel_rfl
theorem bytes33 : Try.prog.bytesOf 36 = 40 := by kernel_rfl
theorem bytes25 : Try.prog.bytesOf 25 = 48 := by kernel_rfl
theorem weightsAll_mem {H : Type} {P : Program} {e : TypeId} {d : DataW H} : ∀ {l : List (DataW H)}, d ∈ l → ∀ n ∈ d.weights P e, n ∈ DataW.weightsAll P e l
  | x :: l, hd, n, hn => by
    simp only [DataW.weightsAll, List.mem_append]
    rcases List.mem_cons.1 hd with rfl | h
    · exact Or.inl hn
    · exact Or.inr (weightsAll_mem h n hn)
  | [], hd, _, _ => by simp at hd
def Fit {H : Type} (t : TypeId) (d : DataW H) : Prop := ∀ n ∈ d.weights Try.prog t, n ≤ reachBytes
theorem fit_slice {H : Type} {t e : TypeId} {elems spare : List (DataW H)} (hu : Try.prog.underlying t = some (.slice e)) (h : Fit t (.slice elems spare)) : (elems.length + spare.length) * Try.prog.bytesOf e ≤ reachBytes ∧ ∀ d ∈ elems, Fit e d := by
  unfold Fit at *
  simp only [DataW.weights, hu] at h
  refine ⟨h _ List.mem_cons_self, fun d hd n hn => h n ?_⟩
  exact List.mem_cons_of_mem _ (List.mem_append_left _ (weightsAll_mem hd n hn))
theorem fit_arr {H : Type} {d0 d1 : DataW H} (h : Fit 25 (.agg [d0, d1])) : Fit 22 d0 ∧ Fit 23 d1 := by
  unfold Fit at *
  simp only [DataW.weights, Try.underlying25, DataW.weightsEach, List.map_cons, List.map_nil, List.append_nil, List.mem_append] at h
  exact ⟨fun n hn => h n (Or.inl hn), fun n hn => h n (Or.inr hn)⟩
theorem fit_cell {H : Type} {d0 d1 d2 : DataW H} (h : Fit 36 (.agg [d0, d1, d2])) : Fit 34 d2 := by
  unfold Fit at *
  simp only [DataW.weights, Try.underlying36, DataW.weightsEach, List.map_cons, List.map_nil, List.append_nil, List.mem_append] at h
  exact fun n hn => h n (Or.inr (Or.inr hn))
theorem add_off (b off i : Nat) : (⟨b, off, none⟩ : Addr).add i = ⟨b, off + i, none⟩ := by
  unfold Addr.add
  split
  · subst_vars; rfl
  · rfl
theorem two_of {W : World} {a : Addr} {cs : List Value} (h : W.cells? 0 a 2 = some cs) : ∃ c0 c1, cs = [c0, c1] ∧ W.cell? a = some c0 ∧ W.cell? (a.add 1) = some c1 := by
  obtain ⟨_, hl, hc⟩ := World.cells?_some h
  match cs, hl with
  | [c0, c1], _ =>
    have h0 := hc 0 (by omega)
    have h1 := hc 1 (by omega)
    exact ⟨c0, c1, rfl, by simpa [Addr.add] using h0, by simpa using h1⟩
theorem three_of {W : World} {a : Addr} {cs : List Value} (h : W.cells? 0 a 3 = some cs) : ∃ c0 c1 c2, cs = [c0, c1, c2] ∧ W.cell? a = some c0 ∧ W.cell? (a.add 1) = some c1 ∧ W.cell? (a.add 2) = some c2 := by
  obtain ⟨_, hl, hc⟩ := World.cells?_some h
  match cs, hl with
  | [c0, c1, c2], _ =>
    have h0 := hc 0 (by omega)
    have h1 := hc 1 (by omega)
    have h2 := hc 2 (by omega)
    exact ⟨c0, c1, c2, rfl, by simpa [Addr.add] using h0, by simpa using h1, by simpa using h2⟩
section
variable {H : Type} {enc : TypeId × Value → H} {W : World} {sp : Nat → Bool} {held : Bool}
/-- What the opening of an array promises. -/
def Opens (enc : TypeId × Value → H) (W : World) (sp : Nat → Bool) (held : Bool) (k : Nat) : Prop := ∀ (x : DataW H × List MemPlace) (cs : List Value) (fuel : Nat), SizeOf.sizeOf x.1 < k → DataW.trod enc Try.prog W 0 sp held fuel 25 cs = some x → Fit 25 x.1 → ∃ n y c0 c1, cs = [c0, c1] ∧ ArIn n 0 W y (.agg #[c0, c1]) ∧ Snd y
theorem open_cell {k : Nat} (IH : Opens enc W sp held k) (x : DataW H × List MemPlace) (cs : List Value) (fuel : Nat) (hk : SizeOf.sizeOf x.1 ≤ k) (h : DataW.trod enc Try.prog W 0 sp held fuel 36 cs = some x) (hf : Fit 36 x.1) :
    ∃ n c v0 v1 v2, cs = [v0, v1, v2] ∧ CeIn (ArIn n 0 W) 0 W c v0 v1 v2 ∧ SndC c := by
  obtain ⟨y0, y1, y2, m, rfl, hl, h0, h1, h2⟩ := trod_struct3 Try.underlying36 h
  rw [cells33] at hl
  match cs, hl with
  | [v0, v1, v2], _ =>
    simp only [cells3, cells2, cells31, List.drop_zero, List.take_succ_cons, List.take_zero, List.drop_succ_cons] at h0 h1 h2
    obtain ⟨z0, e0, -, i0⟩ := DataW.trod_int Try.underlying3 h0
    obtain ⟨z1, e1, -, i1⟩ := DataW.trod_int Try.underlying2 h1
    simp only [List.cons.injEq, and_true] at e0 e1
    subst e0 e1
    replace i0 : I64 z0 := bounds_i64 i0
    replace i1 : I64 z1 := bounds_i64 i1
    have hf2 := fit_cell hf
    rcases open_slice Try.underlying34 h2 with ⟨hcs, hx⟩ | ⟨a, len, cap, mm, n, D, Pl, hcs, _, hlc, hm, hmm, hx, hel⟩
    · simp only [List.cons.injEq, and_true] at hcs
      subst hcs
      exact ⟨1, (z0, z1, []), _, _, _, rfl, ⟨rfl, rfl, none, 0, rfl, by simp, Or.inl rfl⟩, i0, i1, by simp⟩
    · simp only [List.cons.injEq, and_true] at hcs
      subst hcs
      rw [hx] at hf2
      obtain ⟨hb, hfe⟩ := fit_slice Try.underlying34 hf2
      have hlen : len * 48 ≤ reachBytes := by
        rw [bytes25] at hb
        simp only [List.length_map, List.length_range] at hb
        omega
      have hlm : len ≤ mm := by rw [hmm]; split <;> omega
      have hE : ∀ i, i < len → ∃ p : Ar × Value × Value, ∃ n, W.cell? (a.add (i * 2)) = some p.2.1 ∧ W.cell? (a.add (i * 2 + 1)) = some p.2.2 ∧ ArIn n 0 W p.1 (.agg #[p.2.1, p.2.2]) ∧ Snd p.1 := by
        intro i hi
        obtain ⟨cs', hc', ht'⟩ := hel i (by omega)
        rw [cells25] at hc'
        obtain ⟨c0, c1, rfl, g0, g1⟩ := two_of hc'
        rw [add_add] at g1
        have hmem : D i ∈ (List.range len).map D := List.mem_map_of_mem (List.mem_range.2 hi)
        have hs : SizeOf.sizeOf (D i) < k := by
          have s1 := List.sizeOf_lt_of_mem hmem
          rw [hx] at hk
          simp only [DataW.agg.sizeOf_spec, DataW.slice.sizeOf_spec, List.cons.sizeOf_spec, List.nil.sizeOf_spec] at hk
          omega
        obtain ⟨n', y, c0', c1', hcc, hin, hsn⟩ := IH (D i, Pl i) [c0, c1] n hs ht' (hfe _ hmem)
        simp only [List.cons.injEq, and_true] at hcc
        obtain ⟨rfl, rfl⟩ := hcc
        exact ⟨(y, c0, c1), n', g0, g1, hin, hsn⟩
      obtain ⟨F, hF⟩ := choose_lt hE
      obtain ⟨N, hN⟩ := fuel_lt (n := len) (q := fun i n => ArIn n 0 W (F i).1 (.agg #[(F i).2.1, (F i).2.2])) (fun i a b hab h => h.deep hab) (fun i hi => by obtain ⟨n, _, _, h, _⟩ := hF i hi; exact ⟨n, h⟩)
      have hbl : ((List.range len).map fun i => (F i).1).length = len := by simp
      refine ⟨N, (z0, z1, (List.range len).map fun i => (F i).1), _, _, _, rfl, ⟨rfl, rfl, some a, cap, by simp, ?_, ?_⟩, i0, i1, fun y hy => by
        obtain ⟨i, hi, rfl⟩ := List.mem_map.1 hy
        obtain ⟨_, _, _, _, hs⟩ := hF i (List.mem_range.1 hi)
        exact hs⟩
      · simp only [hbl]; unfold reachBytes at hlen; omega
      · by_cases hl0 : len = 0
        · left; subst hl0; rfl
        · right
          obtain ⟨b, off, spot⟩ := a
          obtain ⟨_, g0, _, _⟩ := hF 0 (by omega)
          have hspot : spot = none := by simpa [Addr.add] using World.cell?_spot g0
          subst hspot
          refine ⟨b, off, rfl, Nat.zero_le _, ?_, ?_⟩
          · refine Decidable.byContradiction fun hbn => ?_
            have : W.heap[b]? = none := by simp; omega
            rw [add_off] at g0
            simp [World.cell?, this] at g0
          · intro j hj
            have hj' : j < len := by simpa using hj
            obtain ⟨_, g0, g1, _⟩ := hF j hj'
            rw [add_off] at g0 g1
            refine ⟨_, _, g0, by rw [Nat.add_assoc]; exact g1, ?_⟩
            have := hN j hj'
            simpa [bAt, hj'] using this
theorem open_arr (k : Nat) : Opens enc W sp held k := by
  induction k with
  | zero => intro x cs fuel hk; omega
  | succ k ih =>
    intro x cs fuel hk h hf
    obtain ⟨y0, y1, m, rfl, hl, h0, h1⟩ := trod_struct2 Try.underlying25 h
    rw [cells25] at hl
    match cs, hl with
    | [c0, c1], _ =>
      simp only [cells22, cells23, List.drop_zero, List.take_succ_cons, List.take_zero, List.drop_succ_cons] at h0 h1
      obtain ⟨f0, f1⟩ := fit_arr hf
      obtain ⟨sh, a1, n1, cp1, rfl, hsl, hR, hsI⟩ : ∃ sh a1 n1 cp1, c0 = .slice a1 n1 cp1 ∧ List.length sh = n1 ∧ Row 0 W a1 sh ∧ ∀ z ∈ sh, I64 z := by
        rcases open_ints Try.underlying22 Try.underlying3 cells3 h0 with ⟨hcs, hx⟩ | ⟨a, l, c, zs, hcs, _, hlc, hm, hz, hx, hcell, hwz⟩
        · simp only [List.cons.injEq, and_true] at hcs
          exact ⟨[], none, 0, 0, hcs, rfl, row_nil _ _ _, by simp⟩
        · simp only [List.cons.injEq, and_true] at hcs
          rw [hx] at f0
          obtain ⟨hb, -⟩ := fit_slice Try.underlying22 f0
          rw [bytes3] at hb
          have hzl : l ≤ zs.length := by rw [hz]; split <;> omega
          simp only [lits, List.length_map, List.length_take, List.length_drop, reachBytes] at hb
          refine ⟨zs.take l, some a, l, c, hcs, by rw [List.length_take]; omega, ?_, fun z hz => bounds_i64 (hwz z (List.mem_of_mem_take hz))⟩
          refine ⟨by rw [List.length_take]; omega, ?_⟩
          by_cases hl0 : l = 0
          · left; subst hl0; rfl
          · right
            obtain ⟨b, off, spot⟩ := a
            have hc0 := hcell 0 (by omega)
            have hspot : spot = none := by simpa [Addr.add] using World.cell?_spot hc0
            subst hspot
            refine ⟨b, off, rfl, Nat.zero_le _, ?_, ?_⟩
            · refine Decidable.byContradiction fun hbn => ?_
              have : W.heap[b]? = none := by simp; omega
              simp [Addr.add, World.cell?, this] at hc0
            · intro i hi
              have hi' : i < l := by rw [List.length_take] at hi; omega
              have := hcell i (by omega)
              rw [add_off] at this
              rw [this]
              simp [hi']
      rcases open_slice Try.underlying23 h1 with ⟨hcs, hx⟩ | ⟨a, len, cap, mm, n, D, Pl, hcs, _, hlc, hm, hmm, hx, hel⟩
      · simp only [List.cons.injEq, and_true] at hcs
        subst hcs
        exact ⟨1, .mk sh [], _, _, rfl, arIn_mk (n := 0) (x := .mk sh []) hR (by simp [Ar.cells]) (Or.inl rfl) hsl rfl, Snd.of hsI (by simp)⟩
      · simp only [List.cons.injEq, and_true] at hcs
        subst hcs
        rw [hx] at f1
        obtain ⟨hb, hfe⟩ := fit_slice Try.underlying23 f1
        have hlen : len * 40 ≤ reachBytes := by
          rw [bytes33] at hb
          simp only [List.length_map, List.length_range] at hb
          omega
        have hlm : len ≤ mm := by rw [hmm]; split <;> omega
        have hE : ∀ i, i < len → ∃ p : Ce × Value × Value × Value, ∃ n, W.cell? (a.add (i * 3)) = some p.2.1 ∧ W.cell? (a.add (i * 3 + 1)) = some p.2.2.1 ∧ W.cell? (a.add (i * 3 + 2)) = some p.2.2.2 ∧ CeIn (ArIn n 0 W) 0 W p.1 p.2.1 p.2.2.1 p.2.2.2 ∧ SndC p.1 := by
          intro i hi
          obtain ⟨cs', hc', ht'⟩ := hel i (by omega)
          rw [cells33] at hc'
          obtain ⟨w0, w1, w2, rfl, g0, g1, g2⟩ := three_of hc'
          rw [add_add] at g1 g2
          have hmem : D i ∈ (List.range len).map D := List.mem_map_of_mem (List.mem_range.2 hi)
          have hs : SizeOf.sizeOf (D i) ≤ k := by
            have s1 := List.sizeOf_lt_of_mem hmem
            rw [hx] at hk
            simp only [DataW.agg.sizeOf_spec, DataW.slice.sizeOf_spec, List.cons.sizeOf_spec, List.nil.sizeOf_spec] at hk
            omega
          obtain ⟨n', c, u0, u1, u2, hcc, hin, hsn⟩ := open_cell ih (D i, Pl i) [w0, w1, w2] n hs ht' (hfe _ hmem)
          simp only [List.cons.injEq, and_true] at hcc
          obtain ⟨rfl, rfl, rfl⟩ := hcc
          exact ⟨(c, w0, w1, w2), n', g0, g1, g2, hin, hsn⟩
        obtain ⟨F, hF⟩ := choose_lt hE
        obtain ⟨N, hN⟩ := fuel_lt (n := len) (q := fun i n => CeIn (ArIn n 0 W) 0 W (F i).1 (F i).2.1 (F i).2.2.1 (F i).2.2.2) (fun i a b hab h => h.deeper fun x v hx => hx.deep hab) (fun i hi => by obtain ⟨n, _, _, _, h, _⟩ := hF i hi; exact ⟨n, h⟩)
        have hbl : ((List.range len).map fun i => (F i).1).length = len := by simp
        refine ⟨N + 1, .mk sh ((List.range len).map fun i => (F i).1), _, _, rfl, arIn_mk (n := N) (x := .mk sh ((List.range len).map fun i => (F i).1)) hR ?_ ?_ hsl hbl, Snd.of hsI fun c hc => by
          obtain ⟨i, hi, rfl⟩ := List.mem_map.1 hc
          obtain ⟨_, _, _, _, _, hs⟩ := hF i (List.mem_range.1 hi)
          exact hs⟩
        · show ((List.range len).map fun i => (F i).1).length ≤ _
          rw [hbl]; unfold reachBytes at hlen; omega
        · show CellsIn N 0 W ((List.range len).map fun i => (F i).1) (some a)
          by_cases hl0 : len = 0
          · left; subst hl0; rfl
          · right
            obtain ⟨b, off, spot⟩ := a
            obtain ⟨_, g0, _, _⟩ := hF 0 (by omega)
            have hspot : spot = none := by simpa [Addr.add] using World.cell?_spot g0
            subst hspot
            refine ⟨b, off, rfl, Nat.zero_le _, ?_, ?_⟩
            · refine Decidable.byContradiction fun hbn => ?_
              have : W.heap[b]? = none := by simp; omega
              rw [add_off] at g0
              simp [World.cell?, this] at g0
            · intro j hj
              have hj' : j < len := by simpa using hj
              obtain ⟨_, g0, g1, g2, _⟩ := hF j hj'
              rw [add_off] at g0 g1 g2
              refine ⟨_, _, _, g0, by rw [Nat.add_assoc]; exact g1, by rw [Nat.add_assoc]; exact g2, ?_⟩
              have := hN j hj'
              simpa [cAt, hj'] using this
/-- An array that came in. -/
theorem arr_of {ts : List TypeId} {ds : List (DataW H)} {j : Nat} {d : DataW H} {v : Value} {p : List MemPlace}
    (hsz : (DataW.weightsEach Try.prog ts ds).all (· ≤ reachBytes) = true) (ht : ts[j]? = some 25) (hd : ds[j]? = some d)
    (h : DataW.Trod enc Try.prog W 0 sp held 25 v d p) : ∃ n y c0 c1, v.cells.toList = [c0, c1] ∧ ArIn n 0 W y (.agg #[c0, c1]) ∧ Snd y := by
  obtain ⟨fuel, hf⟩ := h
  exact open_arr (SizeOf.sizeOf d + 1) (d, p) _ fuel (by simp) hf (fun n hn => by
    have := List.all_eq_true.1 hsz n (DataW.weights_mem_each ht hd n hn)
    simpa using this)
/-- A cell that came in. -/
theorem cell_of {ts : List TypeId} {ds : List (DataW H)} {j : Nat} {d : DataW H} {v : Value} {p : List MemPlace}
    (hsz : (DataW.weightsEach Try.prog ts ds).all (· ≤ reachBytes) = true) (ht : ts[j]? = some 36) (hd : ds[j]? = some d)
    (h : DataW.Trod enc Try.prog W 0 sp held 36 v d p) : ∃ n c v0 v1 v2, v.cells.toList = [v0, v1, v2] ∧ CeIn (ArIn n 0 W) 0 W c v0 v1 v2 ∧ SndC c := by
  obtain ⟨fuel, hf⟩ := h
  exact open_cell (open_arr (SizeOf.sizeOf d)) (d, p) _ fuel (Nat.le_refl _) hf (fun n hn => by
    have := List.all_eq_true.1 hsz n (DataW.weights_mem_each ht hd n hn)
    simpa using this)
end
end Go.Proofs.Ytmjncdhahdpplaa
namespace Go.Proofs.Ytmjncdhahdpplaa
open Go.ChangeShapes Go.WideShapes Go.ChangeAt Go.RowKit Go.Deep
set_option linter.unusedVariables false
set_option maxRecDepth 100000
theorem agg_two {v c0 c1 : Value} (h : v.cells.toList = [c0, c1]) : v = .agg #[c0, c1] := by
  cases v with
  | agg cs =>
    obtain ⟨l⟩ := cs
    simp [Value.cells] at h
    rw [h]
  | _ => simp [Value.cells] at h
theorem agg_three {v c0 c1 c2 : Value} (h : v.cells.toList = [c0, c1, c2]) : v = .agg #[c0, c1, c2] := by
  cases v with
  | agg cs =>
    obtain ⟨l⟩ := cs
    simp [Value.cells] at h
    rw [h]
  | _ => simp [Value.cells] at h
end Go.Proofs.Ytmjncdhahdpplaa
namespace Go.Proofs.Ytmjncdhahdpplaa
open Go.ChangeShapes Go.WideShapes Go.ChangeAt Go.RowKit
set_option linter.unusedVariables false
set_option maxRecDepth 100000
theorem firstUp_all {f : Nat → Int} {m : Nat} (h : ∀ i, i < m → f i = 0) : firstUp f m = 0 := by
  induction m with
  | zero => rfl
  | succ m ih => simp only [firstUp]; rw [ih fun i hi => h i (by omega), if_pos rfl]; exact h m (by omega)
theorem cmpC_self {f : Ar → Ar → Int} (hf : ∀ x, f x x = 0) (c : Ce) : cmpC f c c = 0 := by
  unfold cmpC
  simp [cmp3_self, hf]
theorem cmpA_self (n : Nat) (x : Ar) : cmpA n x x = 0 := by
  induction n generalizing x with
  | zero => rfl
  | succ n ih =>
    simp only [cmpA]
    rw [if_neg (by simp [cmp3_self]), if_neg (by
      have : firstUp (axF x x) x.shape.length = 0 := firstUp_all fun i _ => cmp3_self _
      simp [this]), if_neg (by
      have : firstUp (ceF (cmpA n) x x) (min x.cells.length x.cells.length) = 0 := firstUp_all fun i _ => cmpC_self ih _
      exact fun h => h this)]
    exact cmp3_self _
theorem chk_atom (z : Int) : chkA 8 (atomA z) = 0 := by
  have h1 : sizeE [] = 0 := by decide
  have h2 : sizeV [] = 1 := by decide
  have h3 : ¬ hasLong [] := by decide
  simp [chkA, chkB, atomA, Ar.shape, Ar.cells, numCs, h1, h2, h3, firstUp, chkF, chkC, cAt]
theorem chk_nums (l : List Int) (hl : l.length ≤ 16384) : chkA 8 (numsA l) = 0 := by
  have hn : ¬ hasNeg [(l.length : Int)] := by
    rintro ⟨z, hz, h⟩
    simp at hz
    omega
  have h3 : ¬ hasLong [(l.length : Int)] := by
    rintro ⟨z, hz, h⟩
    simp at hz
    omega
  have h12 : sizeE [(l.length : Int)] = 0 ∧ sizeV [(l.length : Int)] = (l.length : Int) := by
    by_cases h0 : hasZero [(l.length : Int)]
    · have hz := h0
      obtain ⟨z, hz, h⟩ := hz
      simp at hz
      have := size_zero (l := [(l.length : Int)]) (by simp) hn h0
      exact ⟨this.2, by rw [this.1]; omega⟩
    · have hp : prodL [(l.length : Int)] = (l.length : Int) := by simp [prodL]
      have := size_ok (l := [(l.length : Int)]) (by simp) hn h0 (by rw [hp]; omega)
      exact ⟨this.2, by rw [this.1, hp]⟩
  show chkB (chkA 7) (numsA l) = 0
  unfold chkB
  have e1 : (numsA l).shape = [(l.length : Int)] := rfl
  have e2 : (numsA l).cells = numCs 0 l := rfl
  rw [e1, e2, numCs_len, if_neg (by simp [h12.1]), if_neg (by simp [h12.2]), if_neg h3]
  refine firstUp_all fun i hi => ?_
  unfold chkF
  rw [e2, numCs_at 0 l i hi]
  simp [chkC]
theorem bytes2 : Try.prog.bytesOf 2 = 8 := by kernel_rfl
/-- A slice of int64 that came in, as a row. -/
theorem ints64_row {H : Type} {enc : TypeId × Value → H} {W : World} {ts : List TypeId} {ds : List (DataW H)} {j : Nat} {d : DataW H} {a : Option Addr} {len cap : Nat} {p : List MemPlace}
    (hsz : (DataW.weightsEach Try.prog ts ds).all (· ≤ reachBytes) = true) (ht : ts[j]? = some 47) (hd : ds[j]? = some d)
    (h : DataW.Trod enc Try.prog W 0 (fun _ => true) true 47 (.slice a len cap) d p) : ∃ zs : List Int, zs.length = len ∧ Row 0 W a zs ∧ len * 8 ≤ 140737488351232 := by
  obtain ⟨fuel, hf⟩ := h
  rcases open_ints Try.underlying47 Try.underlying2 (by kernel_rfl) hf with ⟨hcs, hx⟩ | ⟨x, l, c, zs, hcs, _, hl, hm, hz, hx, hcell, hwz⟩
  · simp [Value.cells] at hcs
    obtain ⟨rfl, rfl, rfl⟩ := hcs
    exact ⟨[], rfl, row_nil _ _ _, by omega⟩
  · simp [Value.cells] at hcs
    obtain ⟨rfl, rfl, rfl⟩ := hcs
    have hd' := (Prod.mk.inj hx).1
    have hz' : zs.length = cap := by simpa using hz
    rw [hd'] at hd
    have hs := sized_slice hsz (j := j) (t := 47) (e := 2) ht hd Try.underlying47
    rw [bytes2] at hs
    simp only [lits, List.length_map, List.length_take, List.length_drop, reachBytes] at hs
    refine ⟨zs.take len, by rw [List.length_take]; omega, ?_, by omega⟩
    refine ⟨by rw [List.length_take]; omega, ?_⟩
    by_cases h0 : len = 0
    · left; subst h0; rfl
    · right
      obtain ⟨b, off, spot⟩ := x
      have hc0 := hcell 0 (by omega)
      have hspot : spot = none := by simpa [Addr.add] using World.cell?_spot hc0
      subst hspot
      refine ⟨b, off, rfl, Nat.zero_le _, ?_, ?_⟩
      · refine Decidable.byContradiction fun hb => ?_
        have : W.heap[b]? = none := by simp; omega
        simp [Addr.add, World.cell?, this] at hc0
      · intro i hi
        have hi' : i < len := by rw [List.length_take] at hi; omega
        have := hcell i (by omega)
        rw [add_off] at this
        rw [this]
        simp [hi']
end Go.Proofs.Ytmjncdhahdpplaa
namespace Go.Proofs.Ytmjncdhahdpplaa
open Go.ChangeShapes Go.WideShapes Go.ChangeAt Go.RowKit
set_option linter.unusedVariables false
set_option maxRecDepth 100000
def gI (l : List Int) (i : Nat) : Int := l[i]?.getD 0
theorem gI_set (l : List Int) (k i : Nat) (v : Int) (hk : k < l.length) : gI (l.set k v) i = if i = k then v else gI l i := by
  unfold gI
  rw [List.getElem?_set]
  by_cases h : k = i
  · subst h; simp [hk]
  · have h' : ¬ i = k := fun h' => h h'.symm
    rw [if_neg h, if_neg h']
theorem gI_rev (l : List Int) (i : Nat) (hi : i < l.length) : gI l.reverse i = gI l (l.length - 1 - i) := by
  unfold gI
  rw [List.getElem?_reverse hi]
theorem gI_ext {l m : List Int} (h : l.length = m.length) (h2 : ∀ i, i < l.length → gI l i = gI m i) : l = m := by
  refine List.ext_getElem? fun i => ?_
  by_cases hi : i < l.length
  · have := h2 i hi
    unfold gI at this
    rw [List.getElem?_eq_getElem hi, List.getElem?_eq_getElem (by omega)] at this ⊢
    simpa using this
  · rw [List.getElem?_eq_none (by omega), List.getElem?_eq_none (by omega)]
theorem inAxes_gI (l d : List Int) : inAxes l d ↔ d.length = l.length ∧ ∀ i, i < l.length → 0 ≤ gI d i ∧ gI d i < gI l i := inAxes_iff l d
/-- A step along each axis. -/
def strL : List Int → List Int
  | [] => []
  | _ :: l => prodL l :: strL l
def dot : List Int → List Int → Int
  | s :: ss, a :: ta => s * a + dot ss ta
  | _, _ => 0
theorem strL_length (l : List Int) : (strL l).length = l.length := by
  induction l with
  | nil => rfl
  | cons s ss ih => simp [strL, ih]
theorem strL_at (l : List Int) (k : Nat) (hk : k < l.length) : gI (strL l) k = prodL (l.drop (k + 1)) := by
  induction l generalizing k with
  | nil => simp at hk
  | cons s ss ih =>
    cases k with
    | zero => simp [strL, gI]
    | succ k => simpa [strL, gI] using ih k (by simpa using hk)
theorem drop_prod (l : List Int) (k : Nat) (hk : k < l.length) : prodL (l.drop k) = gI l k * prodL (l.drop (k + 1)) := by
  rw [List.drop_eq_getElem_cons hk]
  simp [prodL, gI, hk]
theorem place_dot (l d : List Int) (h : d.length = l.length) : place l d = dot (strL l) d := by
  induction l generalizing d with
  | nil =>
    cases d with
    | nil => rfl
    | cons a ta => simp at h
  | cons s ss ih =>
    cases d with
    | nil => simp at h
    | cons a ta => simp only [place, strL, dot]; rw [ih ta (by simpa using h), Int.mul_comm]
theorem dot_set (s d : List Int) (k : Nat) (v : Int) (hs : k < s.length) (hd : k < d.length) : dot s (d.set k v) = dot s d + gI s k * (v - gI d k) := by
  induction s generalizing d k with
  | nil => simp at hs
  | cons x xs ih =>
    cases d with
    | nil => simp at hd
    | cons a ta =>
      cases k with
      | zero => simp only [List.set_cons_zero, dot, gI, List.getElem?_cons_zero, Option.getD_some, Int.mul_sub]; omega
      | succ k =>
        have := ih ta k (by simpa using hs) (by simpa using hd)
        simp only [List.set_cons_succ, dot, gI, List.getElem?_cons_succ] at this ⊢
        rw [this]; omega
theorem dot_neg (s d : List Int) (k : Nat) (hs : k < s.length) (hd : k < d.length) : dot (s.set k (-gI s k)) d = dot s d - 2 * (gI s k * gI d k) := by
  induction s generalizing d k with
  | nil => simp at hs
  | cons x xs ih =>
    cases d with
    | nil => simp at hd
    | cons a ta =>
      cases k with
      | zero => simp only [List.set_cons_zero, dot, gI, List.getElem?_cons_zero, Option.getD_some, Int.neg_mul]; omega
      | succ k =>
        have := ih ta k (by simpa using hs) (by simpa using hd)
        simp only [List.set_cons_succ, dot, gI, List.getElem?_cons_succ] at this ⊢
        rw [this]; omega
theorem dot_snoc (s d : List Int) (x y : Int) (h : s.length = d.length) : dot (s ++ [x]) (d ++ [y]) = dot s d + x * y := by
  induction s generalizing d with
  | nil =>
    cases d with
    | nil => simp [dot]
    | cons a ta => simp at h
  | cons z zs ih =>
    cases d with
    | nil => simp at h
    | cons a ta =>
      simp only [List.cons_append, dot]
      rw [ih ta (by simpa using h)]; omega
theorem dot_rev (s d : List Int) (h : s.length = d.length) : dot s.reverse d = dot s d.reverse := by
  induction s generalizing d with
  | nil =>
    have : d = [] := List.eq_nil_of_length_eq_zero (by simpa using h.symm)
    subst this; rfl
  | cons x xs ih =>
    obtain ⟨e, y, rfl⟩ : ∃ e y, d = e ++ [y] := by
      refine ⟨d.dropLast, d.getLast (by rintro rfl; simp at h), (List.dropLast_concat_getLast _).symm⟩
    rw [List.reverse_cons, dot_snoc _ _ _ _ (by simp at h ⊢; omega), List.reverse_append]
    simp only [List.reverse_cons, List.reverse_nil, List.nil_append, List.cons_append, dot]
    rw [ih e (by simp at h; omega)]; omega
theorem dot_empty (s : List Int) : dot s [] = 0 := by cases s <;> rfl
theorem dot_zero (s : List Int) (m : Nat) : dot s (List.replicate m 0) = 0 := by
  induction s generalizing m with
  | nil => cases m <;> rfl
  | cons x xs ih =>
    cases m with
    | zero => rfl
    | succ m => simp [List.replicate_succ, dot, ih]
/-- A place turned round along an axis. -/
def turnL (l d : List Int) (k : Nat) : List Int := d.set k (gI l k - 1 - gI d k)
theorem turn_in {l d : List Int} (k : Nat) (hk : k < l.length) (h : inAxes l d) : inAxes l (turnL l d k) := by
  rw [inAxes_gI] at h ⊢
  refine ⟨by simp [turnL, h.1], fun i hi => ?_⟩
  unfold turnL
  rw [gI_set _ _ _ _ (by omega)]
  have := h.2 i hi
  by_cases hik : i = k
  · subst hik; rw [if_pos rfl]; omega
  · rw [if_neg hik]; exact this
theorem turn_turn {l d : List Int} (k : Nat) (hk : k < l.length) (h : d.length = l.length) : turnL l (turnL l d k) k = d := by
  refine gI_ext (by simp [turnL]) fun i hi => ?_
  have hd : k < d.length := by omega
  unfold turnL
  rw [gI_set _ _ _ _ (by simpa using hd), gI_set _ _ _ _ hd, gI_set _ _ _ _ hd, if_pos rfl]
  by_cases hik : i = k
  · subst hik; rw [if_pos rfl]; omega
  · rw [if_neg hik, if_neg hik]
/-- Turned steps lead to the turned place. -/
theorem turn_place {l d : List Int} (k : Nat) (hk : k < l.length) (h : d.length = l.length) : gI (strL l) k * (gI l k - 1) + dot ((strL l).set k (-gI (strL l) k)) d = place l (turnL l d k) := by
  have hs : k < (strL l).length := by rw [strL_length]; exact hk
  rw [place_dot l _ (by simp [turnL, h]), dot_neg _ _ _ hs (by omega)]
  unfold turnL
  rw [dot_set _ _ _ _ hs (by omega)]
  generalize gI (strL l) k = s
  generalize gI d k = x
  generalize dot (strL l) d = D
  have e : s * (gI l k - 1 - x - x) = s * (gI l k - 1) - s * x - s * x := by rw [Int.mul_sub, Int.mul_sub]
  rw [e]
  omega
theorem rev_in {l d : List Int} (h : inAxes l.reverse d) : inAxes l d.reverse := by
  rw [inAxes_gI] at h ⊢
  simp only [List.length_reverse] at h ⊢
  refine ⟨h.1, fun i hi => ?_⟩
  have := h.2 (l.length - 1 - i) (by omega)
  rw [gI_rev d i (by omega), h.1]
  rw [gI_rev l _ (by omega)] at this
  have e : l.length - 1 - (l.length - 1 - i) = i := by omega
  rw [e] at this
  exact this
theorem rev_in' {l d : List Int} (h : inAxes l d) : inAxes l.reverse d.reverse := rev_in (by simpa using h)
theorem rev_place {l d : List Int} (h : d.length = l.length) : dot (strL l).reverse d = place l d.reverse := by
  rw [place_dot l _ (by simpa using h), dot_rev _ _ (by rw [strL_length, h])]
theorem prodL_rev (l : List Int) : prodL l.reverse = prodL l := by
  induction l with
  | nil => rfl
  | cons x xs ih => rw [List.reverse_cons, prodL_append, ih]; simp [prodL, Int.mul_comm]
theorem strL_le {l : List Int} (h : ∀ z ∈ l, 0 < z) (k : Nat) (hk : k < l.length) : 1 ≤ gI (strL l) k ∧ gI (strL l) k ≤ prodL l := by
  rw [strL_at l k hk]
  have h1 := prodL_pos (l := l.drop (k + 1)) fun z hz => h z (List.mem_of_mem_drop hz)
  have h2 := prodL_pos (l := l.take (k + 1)) fun z hz => h z (List.mem_of_mem_take hz)
  refine ⟨h1, ?_⟩
  have e : prodL l = prodL (l.take (k + 1)) * prodL (l.drop (k + 1)) := by rw [← prodL_append, List.take_append_drop]
  rw [e]
  have := Int.mul_le_mul_of_nonneg_right h2 (show 0 ≤ prodL (l.drop (k + 1)) by omega)
  omega
/-- One more: the odometer's steps, from the last axis on. -/
theorem tick_done {l A : List Int} {k : Nat} {i : Int} (hk : k < l.length) (hA : inAxes l A) (hi : place l A + prodL (l.drop (k + 1)) = i + 1) (hlt : gI A k + 1 < gI l k) : inAxes l (A.set k (gI A k + 1)) ∧ A.set k (gI A k + 1) = digits l (i + 1) := by
  have hA' := (inAxes_gI l A).1 hA
  have hin : inAxes l (A.set k (gI A k + 1)) := by
    rw [inAxes_gI]
    refine ⟨by simp [hA'.1], fun j hj => ?_⟩
    rw [gI_set _ _ _ _ (by omega)]
    have := hA'.2 j hj
    by_cases hjk : j = k
    · subst hjk; rw [if_pos rfl]; omega
    · rw [if_neg hjk]; exact this
  refine ⟨hin, ?_⟩
  rw [← digits_place hin]
  congr 1
  rw [place_dot _ _ (by simp [hA'.1]), dot_set _ _ _ _ (by rw [strL_length]; exact hk) (by omega), ← place_dot _ _ hA'.1, strL_at l k hk, ← hi]
  have e : gI A k + 1 - gI A k = 1 := by omega
  rw [e]; omega
theorem tick_on {l A : List Int} {k : Nat} {i : Int} (hk : k < l.length) (hA : inAxes l A) (hi : place l A + prodL (l.drop (k + 1)) = i + 1) (hlt : ¬ gI A k + 1 < gI l k) : inAxes l (A.set k 0) ∧ place l (A.set k 0) + prodL (l.drop k) = i + 1 := by
  have hA' := (inAxes_gI l A).1 hA
  have hAk := hA'.2 k hk
  refine ⟨?_, ?_⟩
  · rw [inAxes_gI]
    refine ⟨by simp [hA'.1], fun j hj => ?_⟩
    rw [gI_set _ _ _ _ (by omega)]
    have := hA'.2 j hj
    by_cases hjk : j = k
    · subst hjk; rw [if_pos rfl]; omega
    · rw [if_neg hjk]; exact this
  · rw [place_dot _ _ (by simp [hA'.1]), dot_set _ _ _ _ (by rw [strL_length]; exact hk) (by omega), ← place_dot _ _ hA'.1, strL_at l k hk, drop_prod l k hk, ← hi]
    have e : gI l k = gI A k + 1 := by omega
    rw [e]
    generalize prodL (l.drop (k + 1)) = P
    generalize gI A k = x
    rw [Int.mul_sub, Int.add_mul, Int.mul_comm P x]
    omega
theorem digits_zero (l : List Int) : digits l 0 = List.replicate l.length 0 := by
  induction l with
  | nil => rfl
  | cons s ss ih => simp [digits, ih, List.replicate_succ]
/-- Shapes that may be. -/
theorem fine_cases {l : List Int} (h : sizeE l = 0) : l.length ≤ 8 ∧ (∀ z ∈ l, 0 ≤ z) ∧ ((hasZero l ∧ sizeV l = 0) ∨ ((∀ z ∈ l, 0 < z) ∧ prodL l ≤ 16384 ∧ sizeV l = prodL l)) := by
  obtain ⟨s1, s2, s3⟩ := sizeE_ok h
  refine ⟨by omega, fun z hz => ?_, ?_⟩
  · rcases Int.lt_or_le z 0 with hlt | hle
    · exact absurd ⟨z, hz, hlt⟩ s2
    · exact hle
  · rcases s3 with s3 | ⟨s3, s4⟩
    · exact Or.inl ⟨s3, (size_zero s1 s2 s3).1⟩
    · exact Or.inr ⟨all_pos s2 s3, by omega, (size_ok s1 s2 s3 (by omega)).1⟩
theorem prodL_zero {l : List Int} (h : hasZero l) : prodL l = 0 := by
  obtain ⟨z, hz, rfl⟩ := h
  induction l with
  | nil => simp at hz
  | cons s ss ih =>
    simp only [prodL]
    rcases List.mem_cons.1 hz with h | h
    · rw [← h]; simp
    · rw [ih h]; simp
theorem fine_mk {l : List Int} (h1 : l.length ≤ 8) (h2 : ∀ z ∈ l, 0 ≤ z) (h3 : hasZero l ∨ prodL l ≤ 16384) : sizeE l = 0 ∧ sizeV l = prodL l := by
  have hn : ¬ hasNeg l := by rintro ⟨z, hz, h⟩; have := h2 z hz; omega
  by_cases h0 : hasZero l
  · have := size_zero (by omega) hn h0
    refine ⟨this.2, ?_⟩
    rw [this.1]
    exact (prodL_zero h0).symm
  · rcases h3 with h3 | h3
    · exact absurd h3 h0
    · have := size_ok (by omega) hn h0 (by omega)
      exact ⟨this.2, this.1⟩
theorem sizeV_prod {l : List Int} (h : sizeE l = 0) : sizeV l = prodL l := by
  obtain ⟨h1, h2, h3⟩ := fine_cases h
  exact (fine_mk h1 h2 (h3.elim (fun h => Or.inl h.1) fun h => Or.inr h.2.1)).2
theorem sizeV_le {l : List Int} (h : sizeE l = 0) : 0 ≤ sizeV l ∧ sizeV l ≤ 16384 := by
  obtain ⟨h1, h2, h3⟩ := fine_cases h
  rcases h3 with ⟨-, h3⟩ | ⟨h3, h4, h5⟩
  · omega
  · have := prodL_pos h3; omega
theorem chkB_iff (f : Ar → Int) (x : Ar) : chkB f x = 0 ↔ sizeE x.shape = 0 ∧ sizeV x.shape = x.cells.length ∧ ¬ hasLong x.shape ∧ ∀ i, i < x.cells.length → chkC f (cAt x.cells i) = 0 := by
  unfold chkB
  constructor
  · intro h
    by_cases h1 : sizeE x.shape = 0
    · rw [if_neg (fun k => k h1)] at h
      by_cases h2 : sizeV x.shape = x.cells.length
      · rw [if_neg (fun k => k h2)] at h
        by_cases h3 : hasLong x.shape
        · rw [if_pos h3] at h; omega
        · rw [if_neg h3] at h; exact ⟨h1, h2, h3, firstUp_none h⟩
      · rw [if_pos h2] at h; omega
    · rw [if_pos h1] at h; exact absurd h h1
  · rintro ⟨h1, h2, h3, h4⟩
    rw [if_neg (fun k => k h1), if_neg (fun k => k h2), if_neg h3]
    exact firstUp_all h4
def inF : Nat → Ar → Int
  | 0, _ => 15
  | r + 1, y => chkA r y
theorem chkA_iff (r : Nat) (x : Ar) : chkA r x = 0 ↔ sizeE x.shape = 0 ∧ sizeV x.shape = x.cells.length ∧ ¬ hasLong x.shape ∧ ∀ i, i < x.cells.length → chkC (inF r) (cAt x.cells i) = 0 := by
  cases r with
  | zero => exact chkB_iff _ x
  | succ r => exact chkB_iff _ x
theorem chkC_iff (f : Ar → Int) (c : Ce) : chkC f c = 0 ↔ (c.1 = 2 ∧ c.2.1 = 0 ∧ c.2.2.length = 1 ∧ f (bAt c.2.2 0) = 0) ∨ (c.2.2.length = 0 ∧ (c.1 = 0 ∨ c.1 = 1 ∧ Good c.2.1)) := by
  unfold chkC
  by_cases h1 : c.1 = 2 ∧ c.2.1 = 0 ∧ c.2.2.length = 1
  · rw [if_pos h1]
    obtain ⟨a, b, d⟩ := h1
    constructor
    · intro h; exact Or.inl ⟨a, b, d, h⟩
    · rintro (⟨-, -, -, h⟩ | ⟨h, -⟩)
      · exact h
      · omega
  · rw [if_neg h1]
    by_cases h2 : c.2.2.length = 0 ∧ (c.1 = 0 ∨ c.1 = 1 ∧ Good c.2.1)
    · rw [if_pos h2]; exact ⟨fun _ => Or.inr h2, fun _ => rfl⟩
    · rw [if_neg h2]
      constructor
      · intro h; omega
      · rintro (⟨a, b, d, -⟩ | h)
        · exact absurd ⟨a, b, d⟩ h1
        · exact absurd h h2
theorem chkC_mono {f g : Ar → Int} {c : Ce} (h : chkC f c = 0) (hfg : ∀ y, f y = 0 → g y = 0) : chkC g c = 0 := by
  rw [chkC_iff] at h ⊢
  rcases h with ⟨a, b, d, h⟩ | h
  · exact Or.inl ⟨a, b, d, hfg _ h⟩
  · exact Or.inr h
theorem chkA_up (r : Nat) : ∀ x, chkA r x = 0 → chkA (r + 1) x = 0 := by
  induction r with
  | zero =>
    intro x h
    rw [chkA_iff] at h ⊢
    exact ⟨h.1, h.2.1, h.2.2.1, fun i hi => chkC_mono (h.2.2.2 i hi) fun y hy => absurd (show (15 : Int) = 0 from hy) (by decide)⟩
  | succ r ih =>
    intro x h
    rw [chkA_iff] at h ⊢
    exact ⟨h.1, h.2.1, h.2.2.1, fun i hi => chkC_mono (h.2.2.2 i hi) fun y hy => ih y hy⟩
/-- An array of another's cells may be, if its shape may. -/
theorem chk_of {r : Nat} {x : Ar} {s : List Int} {cs : List Ce} (h : chkA r x = 0) (h1 : sizeE s = 0) (h2 : sizeV s = cs.length) (h3 : ¬ hasLong s) (h4 : ∀ i, i < cs.length → ∃ j, j < x.cells.length ∧ cAt cs i = cAt x.cells j) : chkA r (.mk s cs) = 0 := by
  rw [chkA_iff] at h ⊢
  refine ⟨h1, h2, h3, fun i hi => ?_⟩
  obtain ⟨j, hj, e⟩ := h4 i hi
  show chkC (inF r) (cAt cs i) = 0
  rw [e]
  exact h.2.2.2 j hj
theorem chk_thin (r : Nat) : ∀ x, chkA r x = 0 → Thin r x := by
  induction r with
  | zero =>
    intro x h i hi k hk
    rw [chkA_iff] at h
    have := (chkC_iff _ _).1 (h.2.2.2 i hi)
    rcases this with ⟨-, -, -, h⟩ | ⟨h, -⟩
    · exact absurd (show (15 : Int) = 0 from h) (by decide)
    · omega
  | succ r ih =>
    intro x h i hi k hk
    rw [chkA_iff] at h
    have := (chkC_iff _ _).1 (h.2.2.2 i hi)
    rcases this with ⟨-, -, h1, h⟩ | ⟨h, -⟩
    · have : k = 0 := by omega
      subst this
      exact ih _ h
    · omega
theorem thin_up (d : Nat) : ∀ x, Thin d x → Thin (d + 1) x := by
  induction d with
  | zero => exact fun x h i hi k hk => (h i hi k hk).elim
  | succ d ih => exact fun x h i hi k hk => ih _ (h i hi k hk)
theorem chk_thin16 {x : Ar} (h : chkA 8 x = 0) : Thin 16 x := by
  have := chk_thin 8 x h
  exact thin_up 15 _ (thin_up 14 _ (thin_up 13 _ (thin_up 12 _ (thin_up 11 _ (thin_up 10 _ (thin_up 9 _ (thin_up 8 _ this)))))))
/-- Cells by their number. -/
def mkCs (m : Nat) (g : Nat → Ce) : List Ce := (List.range m).map g
theorem mkCs_len (m : Nat) (g : Nat → Ce) : (mkCs m g).length = m := by simp [mkCs]
theorem mkCs_at (m : Nat) (g : Nat → Ce) (i : Nat) (hi : i < m) : cAt (mkCs m g) i = g i := by simp [cAt, mkCs, hi]
theorem cs_ext {a b : List Ce} (h : a.length = b.length) (h2 : ∀ i, i < a.length → cAt a i = cAt b i) : a = b := by
  refine List.ext_getElem? fun i => ?_
  by_cases hi : i < a.length
  · have := h2 i hi
    unfold cAt at this
    rw [List.getElem?_eq_getElem hi, List.getElem?_eq_getElem (by omega)] at this ⊢
    simpa using this
  · rw [List.getElem?_eq_none (by omega), List.getElem?_eq_none (by omega)]
theorem mkCs_self (l : List Ce) (g : Nat → Ce) (h : ∀ i, i < l.length → g i = cAt l i) : mkCs l.length g = l :=
  cs_ext (mkCs_len _ _) fun i hi => by rw [mkCs_len] at hi; rw [mkCs_at _ _ _ hi]; exact h i hi
theorem Ar.eta (x : Ar) : Ar.mk x.shape x.cells = x := by cases x; rfl
end Go.Proofs.Ytmjncdhahdpplaa
namespace Go.Proofs.Ytmjncdhahdpplaa
open Go.ChangeShapes Go.WideShapes Go.ChangeAt Go.RowKit
set_option linter.unusedVariables false
set_option maxRecDepth 100000
/-- A row of numbers in a block that may be written. -/
def Soft (w : World) (b : Nat) (l : List Int) : Prop := w.rowIs b 3 l.length (fun i => .int .i64 (gI l i))
theorem Soft.row {w : World} {b lo : Nat} {l : List Int} (h : Soft w b l) (hlo : lo ≤ b) (hl : l.length ≤ 140737488355328) : Row lo w (some ⟨b, 0, none⟩) l := by
  refine ⟨hl, ?_⟩
  by_cases h0 : l = []
  · exact Or.inl h0
  · have hp : 0 < l.length := List.length_pos_iff.2 h0
    have h' := h
    obtain ⟨c, h1, -⟩ := h'
    exact Or.inr ⟨b, 0, rfl, hlo, lt_of_block h1, fun i hi => by rw [Nat.zero_add]; exact World.rowIs.cell (i := i) h hi⟩
theorem Soft.set {w : World} {b : Nat} {l : List Int} (h : Soft w b l) (k : Nat) (v : Int) : Soft (w.setCell ⟨b, k, none⟩ (.int .i64 v)) b (l.set k v) := by
  have := World.rowIs.set h k (.int .i64 v)
  unfold Soft
  rw [List.length_set]
  refine this.congr fun i hi => ?_
  by_cases hk : k < l.length
  · rw [gI_set _ _ _ _ hk]; split <;> rfl
  · have e : l.set k v = l := List.set_eq_of_length_le (by omega)
    rw [e, if_neg (by omega)]
theorem Soft.below {w w1 : World} {b : Nat} {l : List Int} (h : Soft w b l) (hb : Below w.heap.size w w1) : Soft w1 b l := by
  obtain ⟨c, h1, h2⟩ := h
  exact ⟨c, (hb.block b (lt_of_block h1)).trans h1, h2⟩
theorem Soft.lt {w : World} {b : Nat} {l : List Int} (h : Soft w b l) : b < w.heap.size := by
  obtain ⟨c, h1, h2⟩ := h
  exact lt_of_block h1
/-- The worlds in a loop that writes into two rows: nothing else has turned. -/
structure Two (W : World) (b1 b2 : Nat) (wr : World) : Prop where
  io : Below 0 W wr
  size : wr.heap.size = W.heap.size
  keep : ∀ k, k ≠ b1 → k ≠ b2 → wr.heap[k]? = W.heap[k]?
theorem Two.refl (W : World) (b1 b2 : Nat) : Two W b1 b2 W := ⟨Below.refl _ _, rfl, fun _ _ _ => rfl⟩
theorem Two.drew {W wr : World} {b1 b2 : Nat} (h : Two W b1 b2 wr) : Two W b1 b2 wr.drew := ⟨h.io.drew, h.size, h.keep⟩
theorem Two.set1 {W wr : World} {b1 b2 : Nat} (h : Two W b1 b2 wr) (i : Nat) (v : Value) : Two W b1 b2 (wr.setCell ⟨b1, i, none⟩ v) := ⟨h.io.setCell (p := ⟨b1, i, none⟩) (Nat.zero_le _) v, by simpa using h.size, fun k h1 h2 => by rw [Below.heap_setCell _ _ _ _ h1]; exact h.keep k h1 h2⟩
theorem Two.set2 {W wr : World} {b1 b2 : Nat} (h : Two W b1 b2 wr) (i : Nat) (v : Value) : Two W b1 b2 (wr.setCell ⟨b2, i, none⟩ v) := ⟨h.io.setCell (p := ⟨b2, i, none⟩) (Nat.zero_le _) v, by simpa using h.size, fun k h1 h2 => by rw [Below.heap_setCell _ _ _ _ h2]; exact h.keep k h1 h2⟩
theorem Two.cell {W wr : World} {b1 b2 : Nat} (h : Two W b1 b2 wr) {b i : Nat} {v : Value} (h1 : b ≠ b1) (h2 : b ≠ b2) (hc : W.cell? ⟨b, i, none⟩ = some v) : wr.cell? ⟨b, i, none⟩ = some v := by
  rw [World.cell?_of_block (w := W) (h.keep b h1 h2)]; exact hc
theorem Two.frozen {W wr : World} {b1 b2 : Nat} (h : Two W b1 b2 wr) {b i : Nat} (h1 : b ≠ b1) (h2 : b ≠ b2) (hc : W.frozen? ⟨b, i, none⟩ = false) : wr.frozen? ⟨b, i, none⟩ = false := by
  rw [World.frozen?_of_block (w := W) (h.keep b h1 h2)]; exact hc
theorem Two.belowB {W wr : World} {b1 b2 B : Nat} (h : Two W b1 b2 wr) (h1 : B ≤ b1) (h2 : B ≤ b2) : Below B W wr := ⟨h.io.os, h.io.tape, h.io.output, h.io.size, fun k hk => h.keep k (by omega) (by omega)⟩
theorem Two.below {W wr w : World} {b1 b2 : Nat} (h : Two W b1 b2 wr) (hb : Below w.heap.size w W) (h1 : w.heap.size ≤ b1) (h2 : w.heap.size ≤ b2) : Below w.heap.size w wr := hb.trans (h.belowB h1 h2)
theorem wrapId' {x : Int} (h1 : -9223372036854775808 ≤ x) (h2 : x ≤ 9223372036854775807) : wrap64 x = x := by unfold wrap64; omega
set_option maxHeartbeats 2000000 in
theorem strides_any {lo : Nat} (l : List Int) (a : Option Addr) (cap : Nat) (w : World) (R : Row lo w a l) (hl : l.length ≤ 8) :
    Calls Try.prog 62 #[.slice a l.length cap] w fun e w' => ∃ S : List Int, S.length = l.length ∧ ((∀ z ∈ l, 0 < z) → prodL l ≤ 16384 → S = strL l) ∧ e = .returned (.slice (some ⟨w.heap.size, 0, none⟩) l.length l.length) ∧ Soft w' w.heap.size S ∧ Below w.heap.size w w' := by
  have hrow := @row_at _ _ _ _ R
  have mk := run_make_row' (P := Try.prog) 22 3 (.int .i64 0) 8 Try.underlying22 int3 rfl .i64 .i64 l.length (by omega) (by omega)
  have rm := World.rowIs_made w (.int .i64 0) l.length 3
  have bm : Below w.heap.size w (w.alloc (.cells (madeCells #[.int .i64 0] l.length) 3)) := (Below.refl _ _).alloc (Nat.le_refl _) _
  have RM : Hid (Soft (w.alloc (.cells (madeCells #[.int .i64 0] l.length) 3)) w.heap.size (List.replicate l.length 0)) := by
    unfold Soft Hid
    rw [List.length_replicate]
    exact rm.congr fun i hi => by simp [gI, hi]
  have BM := hide bm
  clear R rm bm
  go_enter Try.func62, Try.ntmps62
  go_wp2
  clear mk
  go_loopw [4, 5] (fun st i wr => ∃ m : Nat, m ≤ l.length ∧ i = .int .i64 ((m : Int) - 1) ∧ ∃ (v : Int) (S : List Int), st = .int .i64 v ∧ S.length = l.length ∧ Soft wr w.heap.size S ∧ Below w.heap.size w wr ∧ ((∀ z ∈ l, 0 < z) → prodL l ≤ 16384 → v = prodL (l.drop m) ∧ ∀ k, m ≤ k → k < l.length → gI S k = gI (strL l) k)) (fun _ i _ => (intOf i + 1).toNat)
  case atStart =>
    exact ⟨l.length, Nat.le_refl _, by go_num, 1, _, rfl, List.length_replicate, RM.out, BM.out, fun _ _ => ⟨by simp [prodL], fun k h1 h2 => by omega⟩⟩
  case round =>
    clear BM RM
    obtain ⟨m, hm, rfl, v, S, rfl, hS, hr, hnx, hpos⟩ := hrel
    cases m with
    | zero =>
      have F : Hid (∃ S' : List Int, S'.length = l.length ∧ ((∀ z ∈ l, 0 < z) → prodL l ≤ 16384 → S' = strL l) ∧ Soft wr w.heap.size S' ∧ Below w.heap.size w wr) :=
        ⟨S, hS, fun h1 h2 => gI_ext (by rw [strL_length, hS]) fun i hi => (hpos h1 h2).2 i (Nat.zero_le _) (by omega), hr, hnx⟩
      clear hr hpos hrow
      go_wp2
      go_ret
      obtain ⟨S', f1, f2, f3, f4⟩ := F.out
      exact ⟨S', f1, f2, rfl, f3, f4⟩
    | succ m =>
      obtain ⟨b, off, ha, hb, hck⟩ := hrow (j := m) (by omega)
      subst ha
      have e1 : ((m + 1 : Nat) : Int) - 1 = (m : Int) := by omega
      rw [e1]
      have hc1 : wr.cell? ⟨b, off + m, none⟩ = some (.int .i64 (gI l m)) := (hnx.cell (p := ⟨b, off + m, none⟩) hb).trans hck
      have hz := World.rowIs.cell (i := m) hr (by omega)
      have hfz := World.rowIs.frozen hr m
      have hbw := hr.lt
      have HS := hide (hr.set m v)
      have HB := hide (hnx.setCell (p := ⟨w.heap.size, m, none⟩) (Nat.le_refl _) (.int .i64 v))
      have hc2 : (wr.setCell ⟨w.heap.size, m, none⟩ (.int .i64 v)).cell? ⟨b, off + m, none⟩ = some (.int .i64 (gI l m)) := (HB.out.cell (p := ⟨b, off + m, none⟩) hb).trans hck
      have HP : Hid ((∀ z ∈ l, 0 < z) → prodL l ≤ 16384 → wrap64 (v * gI l m) = prodL (l.drop m) ∧ ∀ k, m ≤ k → k < l.length → gI (S.set m v) k = gI (strL l) k) := by
        intro h1 h2
        obtain ⟨h3, h4⟩ := hpos h1 h2
        have e : v * gI l m = prodL (l.drop m) := by rw [drop_prod l m (by omega), h3, Int.mul_comm]
        have p1 := prodL_pos (l := l.drop m) fun z hz => h1 z (List.mem_of_mem_drop hz)
        have p2 : prodL (l.drop m) ≤ prodL l := by
          have e : prodL l = prodL (l.take m) * prodL (l.drop m) := by rw [← prodL_append, List.take_append_drop]
          have p6 := prodL_pos (l := l.take m) fun z hz => h1 z (List.mem_of_mem_take hz)
          have := Int.mul_le_mul (a := 1) (b := prodL (l.drop m)) (c := prodL (l.take m)) (d := prodL (l.drop m)) (by omega) (by omega) (by omega) (by omega)
          omega
        refine ⟨by rw [e]; exact wrapId' (by omega) (by omega), fun k h5 h6 => ?_⟩
        rw [gI_set _ _ _ _ (by omega)]
        by_cases hk : k = m
        · subst hk; rw [if_pos rfl, h3, strL_at l _ (by omega)]
        · rw [if_neg hk]; exact h4 k (by omega) h6
      have HL : Hid ((S.set m v).length = l.length) := by rw [List.length_set]; exact hS
      generalize gI l m = z at *
      generalize gI S m = y at *
      clear hr hpos hrow hck hc1
      go_wp2
      go_roundw
      case rel => exact ⟨m, by omega, by go_num, _, _, rfl, HL.out, HS.out, HB.out, HP.out⟩
      case measure => simp [intOf]
/-- A row of numbers that may be written, by its cells. -/
def SoftC (w : World) (b : Nat) (l : List Int) : Prop := ∀ i, i < l.length → w.cell? ⟨b, i, none⟩ = some (.int .i64 (gI l i)) ∧ w.frozen? ⟨b, i, none⟩ = false
theorem Soft.cells {w : World} {b : Nat} {l : List Int} (h : Soft w b l) : SoftC w b l := fun i hi => ⟨World.rowIs.cell (i := i) h hi, World.rowIs.frozen h i⟩
theorem SoftC.set {w : World} {b : Nat} {l : List Int} (h : SoftC w b l) (k : Nat) (hk : k < l.length) (v : Int) : SoftC (w.setCell ⟨b, k, none⟩ (.int .i64 v)) b (l.set k v) := by
  intro i hi
  rw [List.length_set] at hi
  obtain ⟨h1, h2⟩ := h i hi
  refine ⟨?_, by simpa using h2⟩
  rw [gI_set _ _ _ _ hk]
  by_cases hik : i = k
  · subst hik
    rw [if_pos rfl]
    exact World.cell?_setCell_same' _ _ _ (by rw [h1]; rfl)
  · rw [if_neg hik, World.cell?_setCell_other _ _ _ _ (by simp)]
    exact h1
theorem SoftC.row {w : World} {b lo : Nat} {l : List Int} (h : SoftC w b l) (hb : b < w.heap.size) (hlo : lo ≤ b) (hl : l.length ≤ 140737488355328) : Row lo w (some ⟨b, 0, none⟩) l :=
  ⟨hl, Or.inr ⟨b, 0, rfl, hlo, hb, fun i hi => by rw [Nat.zero_add]; exact (h i hi).1⟩⟩
/-- A row, turned round as far as m. -/
def revTo (l : List Int) (m : Nat) : List Int := (List.range l.length).map fun p => gI l (if p < m ∨ l.length ≤ p + m then l.length - 1 - p else p)
theorem revTo_len (l : List Int) (m : Nat) : (revTo l m).length = l.length := by simp [revTo]
theorem revTo_at (l : List Int) (m p : Nat) (hp : p < l.length) : gI (revTo l m) p = gI l (if p < m ∨ l.length ≤ p + m then l.length - 1 - p else p) := by
  conv => lhs; unfold gI revTo
  simp [hp]
theorem revTo_zero (l : List Int) : revTo l 0 = l := gI_ext (revTo_len _ _) fun i hi => by
  rw [revTo_len] at hi
  rw [revTo_at _ _ _ hi, if_neg (by omega)]
theorem revTo_end (l : List Int) (m : Nat) (h1 : 2 * m ≤ l.length + 1) (h2 : l.length ≤ 2 * m + 1) : revTo l m = l.reverse := gI_ext (by rw [revTo_len, List.length_reverse]) fun i hi => by
  rw [revTo_len] at hi
  rw [revTo_at _ _ _ hi, gI_rev _ _ hi]
  by_cases h : i < m ∨ l.length ≤ i + m
  · rw [if_pos h]
  · rw [if_neg h]; congr 1; omega
theorem revTo_step (l : List Int) (m j : Nat) (hj : j = l.length - 1 - m) (h : 2 * m + 1 < l.length) : ((revTo l m).set m (gI (revTo l m) j)).set j (gI (revTo l m) m) = revTo l (m + 1) := gI_ext (by simp [revTo_len]) fun i hi => by
  simp only [List.length_set, revTo_len] at hi
  rw [gI_set _ _ _ _ (by simp [revTo_len]; omega), gI_set _ _ _ _ (by rw [revTo_len]; omega), revTo_at _ _ _ hi, revTo_at _ _ _ hi, revTo_at _ _ j (by omega), revTo_at _ _ m (by omega), if_neg (by omega : ¬ (j < m ∨ l.length ≤ j + m)), if_neg (by omega : ¬ (m < m ∨ l.length ≤ m + m))]
  by_cases h1 : i = j
  · subst h1; rw [if_pos rfl, if_pos (by omega)]; congr 1; omega
  · rw [if_neg h1]
    by_cases h2 : i = m
    · subst h2; rw [if_pos rfl, if_pos (by omega)]; congr 1
    · rw [if_neg h2]
      by_cases h3 : i < m ∨ l.length ≤ i + m
      · rw [if_pos h3, if_pos (by omega)]
      · rw [if_neg h3, if_neg (by omega)]
theorem set_comm (l : List Int) (i j : Nat) (x y : Int) (h : i ≠ j) : (l.set i x).set j y = (l.set j y).set i x := List.set_comm _ _ h
set_option maxHeartbeats 2000000 in
theorem reverse_any (l : List Int) (b cap : Nat) (w : World) (h : SoftC w b l) (hl : l.length ≤ 8) :
    Calls Try.prog 64 #[.slice (some ⟨b, 0, none⟩) l.length cap] w fun e w' => e = .returned (.tuple #[]) ∧ SoftC w' b l.reverse ∧ Two w b b w' := by
  have H0 : Hid (SoftC w b (revTo l 0)) := by unfold Hid; rw [revTo_zero]; exact h
  clear h
  go_enter Try.func64, Try.ntmps64
  go_wp2
  go_loopw [2, 3] (fun i j wr => ∃ m : Nat, 2 * m ≤ l.length + 1 ∧ i = .int .i64 (m : Int) ∧ j = .int .i64 ((l.length : Int) - 1 - m) ∧ SoftC wr b (revTo l m) ∧ Two w b b wr) (fun i j _ => (intOf j - intOf i + 1).toNat)
  case atStart => exact ⟨0, by omega, rfl, by go_num, H0.out, Two.refl _ _ _⟩
  case round =>
    clear H0
    obtain ⟨m, hm, rfl, rfl, hr, hk⟩ := hrel
    by_cases hlt : 2 * m + 1 < l.length
    · obtain ⟨j, hj⟩ : ∃ j, j = l.length - 1 - m := ⟨_, rfl⟩
      have ej : (l.length : Int) - 1 - m = (j : Int) := by omega
      rw [ej]
      have c1 := (hr m (by rw [revTo_len]; omega)).1
      have c2 := (hr j (by rw [revTo_len]; omega)).1
      have f1 := (hr m (by rw [revTo_len]; omega)).2
      have f2 := (hr j (by rw [revTo_len]; omega)).2
      have hmj : (m : Int) < (j : Int) := by omega
      have hjl : j < l.length := by omega
      have HJ := hide hj
      have HS1 : Hid (SoftC ((wr.setCell ⟨b, m, none⟩ (.int .i64 (gI (revTo l m) j))).setCell ⟨b, j, none⟩ (.int .i64 (gI (revTo l m) m))) b (revTo l (m + 1))) := by
        unfold Hid
        rw [← revTo_step l m j hj hlt]
        exact (hr.set m (by rw [revTo_len]; omega) _).set j (by rw [List.length_set, revTo_len]; omega) _
      have HS2 : Hid (SoftC ((wr.setCell ⟨b, j, none⟩ (.int .i64 (gI (revTo l m) m))).setCell ⟨b, m, none⟩ (.int .i64 (gI (revTo l m) j))) b (revTo l (m + 1))) := by
        unfold Hid
        rw [← revTo_step l m j hj hlt, set_comm _ _ _ _ _ (by omega)]
        exact (hr.set j (by rw [revTo_len]; omega) _).set m (by rw [List.length_set, revTo_len]; omega) _
      have HK : Hid (∀ i j v u, Two w b b ((wr.setCell ⟨b, i, none⟩ v).setCell ⟨b, j, none⟩ u).drew) := fun i j v u => ((hk.set1 i v).set1 j u).drew
      clear hj ej
      generalize gI (revTo l m) j = x at *
      generalize gI (revTo l m) m = y at *
      clear hr hk
      go_wp2
      go_region
      all_goals
        go_wp2
        go_roundw
        case rel => first | exact ⟨m + 1, by omega, by go_num, by have := HJ.out; go_num, HS1.out, HK.out _ _ _ _⟩ | exact ⟨m + 1, by omega, by go_num, by have := HJ.out; go_num, HS2.out, HK.out _ _ _ _⟩
        case measure => simp [intOf]; omega
    · have HF : Hid (SoftC wr b l.reverse ∧ Two w b b wr) := ⟨by rw [← revTo_end l m hm (by omega)]; exact hr, hk⟩
      have hge : ¬ (m : Int) < (l.length : Int) - 1 - m := by omega
      clear hr hk
      go_wp2
      go_end0
      exact ⟨rfl, HF.out⟩
end Go.Proofs.Ytmjncdhahdpplaa
namespace Go.Proofs.Ytmjncdhahdpplaa
open Go.ChangeShapes Go.WideShapes Go.ChangeAt Go.RowKit
set_option linter.unusedVariables false
set_option maxRecDepth 100000
/-- Where a cell's box lies. -/
theorem cells_fn {n lo : Nat} {w : World} {cs : List Ce} {a2 : Option Addr} (hc : CellsIn n lo w cs a2) : ∃ (ab : Nat → Option Addr) (cb : Nat → Nat), 0 < cs.length → ∃ b off, a2 = some ⟨b, off, none⟩ ∧ lo ≤ b ∧ b < w.heap.size ∧ ∀ i, i < cs.length → w.cell? ⟨b, off + i * 3, none⟩ = some (.int .i64 (cAt cs i).1) ∧ w.cell? ⟨b, off + i * 3 + 1, none⟩ = some (.int .i64 (cAt cs i).2.1) ∧ w.cell? ⟨b, off + i * 3 + 2, none⟩ = some (.slice (ab i) (cAt cs i).2.2.length (cb i)) ∧
    CeIn (ArIn n lo w) lo w (cAt cs i) (.int .i64 (cAt cs i).1) (.int .i64 (cAt cs i).2.1) (.slice (ab i) (cAt cs i).2.2.length (cb i)) := by
  rcases hc with rfl | ⟨b, off, ha, hlo, hb, hc⟩
  · exact ⟨fun _ => none, fun _ => 0, fun h => absurd h (by simp)⟩
  · have : ∀ i, ∃ (p : Option Addr × Nat), i < cs.length → w.cell? ⟨b, off + i * 3, none⟩ = some (.int .i64 (cAt cs i).1) ∧ w.cell? ⟨b, off + i * 3 + 1, none⟩ = some (.int .i64 (cAt cs i).2.1) ∧ w.cell? ⟨b, off + i * 3 + 2, none⟩ = some (.slice p.1 (cAt cs i).2.2.length p.2) ∧
        CeIn (ArIn n lo w) lo w (cAt cs i) (.int .i64 (cAt cs i).1) (.int .i64 (cAt cs i).2.1) (.slice p.1 (cAt cs i).2.2.length p.2) := by
      intro i
      by_cases hi : i < cs.length
      · obtain ⟨v0, v1, v2, e0, e1, e2, e3⟩ := hc i hi
        have e4 := e3
        obtain ⟨rfl, rfl, a, cap, rfl, -⟩ := e4
        exact ⟨(a, cap), fun _ => ⟨e0, e1, e2, e3⟩⟩
      · exact ⟨(none, 0), fun h => absurd h hi⟩
    obtain ⟨f, hf⟩ := Classical.axiomOfChoice this
    exact ⟨fun i => (f i).1, fun i => (f i).2, fun _ => ⟨b, off, ha, hlo, hb, fun i hi => hf i hi⟩⟩
/-- A row of cells that is filled as far as j. -/
def gF (T : Nat → Value × Value × Value) (j m : Nat) : Value := if m < j * 3 then (if m % 3 = 0 then (T (m / 3)).1 else if m % 3 = 1 then (T (m / 3)).2.1 else (T (m / 3)).2.2) else zero3 m
theorem gF_zero (T : Nat → Value × Value × Value) (m : Nat) : gF T 0 m = zero3 m := by simp [gF]
theorem gF_step (T : Nat → Value × Value × Value) (j m : Nat) : gF T (j + 1) m = if m = j * 3 + 2 then (T j).2.2 else if m = j * 3 + 1 then (T j).2.1 else if m = j * 3 then (T j).1 else gF T j m := by
  unfold gF
  by_cases h2 : m = j * 3 + 2
  · rw [if_pos h2, if_pos (by omega), if_neg (by omega), if_neg (by omega)]
    have : m / 3 = j := by omega
    rw [this]
  · rw [if_neg h2]
    by_cases h1 : m = j * 3 + 1
    · rw [if_pos h1, if_pos (by omega), if_neg (by omega), if_pos (by omega)]
      have : m / 3 = j := by omega
      rw [this]
    · rw [if_neg h1]
      by_cases h0 : m = j * 3
      · rw [if_pos h0, if_pos (by omega), if_pos (by omega)]
        have : m / 3 = j := by omega
        rw [this]
      · rw [if_neg h0]
        by_cases h : m < j * 3
        · rw [if_pos h, if_pos (by omega)]
        · rw [if_neg h, if_neg (by omega)]
theorem gF_at (T : Nat → Value × Value × Value) (j i : Nat) (hi : i < j) : gF T j (i * 3) = (T i).1 ∧ gF T j (i * 3 + 1) = (T i).2.1 ∧ gF T j (i * 3 + 2) = (T i).2.2 := by
  unfold gF
  have e0 : i * 3 / 3 = i := by omega
  have e1 : (i * 3 + 1) / 3 = i := by omega
  have e2 : (i * 3 + 2) / 3 = i := by omega
  refine ⟨?_, ?_, ?_⟩
  · rw [if_pos (by omega), if_pos (by omega), e0]
  · rw [if_pos (by omega), if_neg (by omega), if_pos (by omega), e1]
  · rw [if_pos (by omega), if_neg (by omega), if_neg (by omega), e2]
/-- The cells that steps lead to. -/
def gathL (l : List Int) (cs : List Ce) (st : Int) (S : List Int) : List Ce := mkCs cs.length fun i => cAt cs (st + dot S (digits l i)).toNat
/-- What a gather needs, where there is a cell. -/
def Leads (l : List Int) (CA : Nat) (st : Int) (S : List Int) : Prop := 0 < CA → (∀ z ∈ l, 0 < z) ∧ prodL l = CA ∧ (∀ k, k < l.length → -16384 ≤ gI S k ∧ gI S k ≤ 16384) ∧ ∀ A, inAxes l A → 0 ≤ st + dot S A ∧ st + dot S A < CA
theorem four_allocs (w : World) (o1 o2 o3 o4 : Obj) : Below w.heap.size w ((((w.alloc o1).alloc o2).alloc o3).alloc o4) := (((one_alloc w o1).alloc (by simp) o2).alloc (by simp; omega) o3).alloc (by simp; omega) o4
theorem size_four (w : World) (o1 o2 o3 o4 : Obj) : ((((w.alloc o1).alloc o2).alloc o3).alloc o4).heap.size = w.heap.size + 4 := by simp
theorem heap_four (w : World) (o1 o2 o3 o4 : Obj) : ((((w.alloc o1).alloc o2).alloc o3).alloc o4).heap[w.heap.size]? = some o1 ∧ ((((w.alloc o1).alloc o2).alloc o3).alloc o4).heap[w.heap.size + 1]? = some o2 ∧ ((((w.alloc o1).alloc o2).alloc o3).alloc o4).heap[w.heap.size + 2]? = some o3 ∧ ((((w.alloc o1).alloc o2).alloc o3).alloc o4).heap[w.heap.size + 3]? = some o4 := by
  have hh : ((((w.alloc o1).alloc o2).alloc o3).alloc o4).heap = (((w.heap.push o1).push o2).push o3).push o4 := rfl
  rw [hh]
  have z1 : (w.heap.push o1).size = w.heap.size + 1 := by simp
  have z2 : ((w.heap.push o1).push o2).size = w.heap.size + 2 := by simp
  have z3 : (((w.heap.push o1).push o2).push o3).size = w.heap.size + 3 := by simp
  refine ⟨?_, ?_, ?_, ?_⟩
  · rw [Array.getElem?_push, z3, if_neg (by omega), Array.getElem?_push, z2, if_neg (by omega), Array.getElem?_push, z1, if_neg (by omega), Array.getElem?_push, if_pos rfl]
  · rw [Array.getElem?_push, z3, if_neg (by omega), Array.getElem?_push, z2, if_neg (by omega), Array.getElem?_push, z1, if_pos rfl]
  · rw [Array.getElem?_push, z3, if_neg (by omega), Array.getElem?_push, z2, if_pos rfl]
  · rw [Array.getElem?_push, z3, if_pos rfl]
theorem cell_of_heap {w : World} {b i : Nat} {cs : Array Value} {t : TypeId} {f : Nat × Nat} {v : Value} (h : w.heap[b]? = some (.cells cs t f)) (hi : cs[i]? = some v) : w.cell? ⟨b, i, none⟩ = some v := by
  unfold World.cell?
  simp only [h, hi]
  rfl
theorem frozen_of_heap {w : World} {b i : Nat} {cs : Array Value} {t : TypeId} (h : w.heap[b]? = some (.cells cs t)) : w.frozen? ⟨b, i, none⟩ = false := by
  unfold World.frozen?
  simp [h]
end Go.Proofs.Ytmjncdhahdpplaa
namespace Go.Proofs.Ytmjncdhahdpplaa
open Go.ChangeShapes Go.WideShapes Go.ChangeAt Go.RowKit
set_option linter.unusedVariables false
set_option maxRecDepth 100000
set_option maxHeartbeats 8000000 in
theorem gather_any (n lo : Nat) (l : List Int) (cs : List Ce) (a1 a2 aS : Option Addr) (c1 c2 cS : Nat) (st : Int) (S : List Int) (w : World) (hx : ArIn (n + 1) lo w (.mk l cs) (.agg #[.slice a1 l.length c1, .slice a2 cs.length c2])) (hlo : lo ≤ w.heap.size) (hl8 : l.length ≤ 8) (hc16 : cs.length ≤ 16384)
    (RS : ∃ lo', Row lo' w aS S) (hS : S.length = l.length) (H : Leads l cs.length st S) :
    Calls Try.prog 63 #[.agg #[.slice a1 l.length c1, .slice a2 cs.length c2], .int .i64 st, .slice aS l.length cS] w fun e w' => (∃ v, e = .returned v ∧ ArIn (n + 1) lo w' (.mk l (gathL l cs st S)) v) ∧ Below w.heap.size w w' := by
  obtain ⟨lo', RS⟩ := RS
  obtain ⟨b1, k1, b2, k2, hv, R, hl, hc⟩ := hx
  simp only [Ar.shape, Ar.cells, Value.agg.injEq, Array.mk.injEq, List.cons.injEq, Value.slice.injEq, and_true, true_and] at hv R hl hc
  obtain ⟨⟨rfl, rfl⟩, ⟨rfl, rfl⟩⟩ := hv
  obtain ⟨ab, cb, hcf⟩ := cells_fn (n := n) (lo := lo) (w := w) (cs := cs) (a2 := a2) hc
  have hrow := @row_at _ _ _ _ R
  have hrowS := @row_at _ _ _ _ RS
  have mk1 := make_cells cs.length (by omega)
  have mk2 := run_make_row' (P := Try.prog) 22 3 (.int .i64 0) 8 Try.underlying22 int3 rfl .i64 .i64 l.length (by omega) (by omega)
  obtain ⟨W4, e4⟩ : ∃ W4, W4 = (((w.alloc (.cells #[.slice a1 l.length c1, .slice a2 cs.length c2] 25)).alloc (.cells #[.slice none 0 0, .slice none 0 0] 25)).alloc (.cells (madeCells #[.int .i64 0, .int .i64 0, .slice none 0 0] (cs.length * 3)) 36)).alloc (.cells (madeCells #[.int .i64 0] l.length) 3) := ⟨_, rfl⟩
  have B4 : Below w.heap.size w W4 := by rw [e4]; exact four_allocs _ _ _ _ _
  have s4 : W4.heap.size = w.heap.size + 4 := by rw [e4]; exact size_four _ _ _ _ _
  obtain ⟨h0, h1, h2, h3⟩ := heap_four w (.cells #[.slice a1 l.length c1, .slice a2 cs.length c2] 25) (.cells #[.slice none 0 0, .slice none 0 0] 25) (.cells (madeCells #[.int .i64 0, .int .i64 0, .slice none 0 0] (cs.length * 3)) 36) (.cells (madeCells #[.int .i64 0] l.length) 3)
  rw [← e4] at h0 h1 h2 h3
  have RC : Hid (W4.rowIs (w.heap.size + 2) 36 (cs.length * 3) (gF (fun i => (.int .i64 (cAt cs (st + dot S (digits l i)).toNat).1, .int .i64 (cAt cs (st + dot S (digits l i)).toNat).2.1, .slice (ab (st + dot S (digits l i)).toNat) (cAt cs (st + dot S (digits l i)).toNat).2.2.length (cb (st + dot S (digits l i)).toNat))) 0)) := by
    obtain ⟨c, g1, g2, g3⟩ := rowIs_made3 W4 (cs.length * 3)
    have e : c = madeCells #[.int .i64 0, .int .i64 0, .slice none 0 0] (cs.length * 3) := by
      have g4 : (W4.alloc (.cells (madeCells #[.int .i64 0, .int .i64 0, .slice none 0 0] (cs.length * 3)) 36)).heap[W4.heap.size]? = some (.cells (madeCells #[.int .i64 0, .int .i64 0, .slice none 0 0] (cs.length * 3)) 36) := by
        show (W4.heap.push _)[W4.heap.size]? = _
        simp
      rw [g4] at g1
      simp only [Option.some.injEq, Obj.cells.injEq, true_and] at g1
      exact g1.1.symm
    exact ⟨c, by rw [e]; exact h2, g2, fun i hi => by rw [g3 i hi, gF_zero]⟩
  have RA : Hid (Soft W4 (w.heap.size + 3) (List.replicate l.length 0)) := by
    unfold Soft Hid
    rw [List.length_replicate]
    exact ⟨_, h3, size_madeCells _ _, fun i hi => by simp [madeCells, hi, Nat.mod_one, gI]⟩
  have Q : Hid (W4.cell? ⟨w.heap.size, 0, none⟩ = some (.slice a1 l.length c1) ∧ W4.cell? ⟨w.heap.size, 1, none⟩ = some (.slice a2 cs.length c2) ∧ W4.cell? ⟨w.heap.size + 1, 0, none⟩ = some (.slice none 0 0) ∧ W4.cell? ⟨w.heap.size + 1, 1, none⟩ = some (.slice none 0 0) ∧ W4.frozen? ⟨w.heap.size + 1, 0, none⟩ = false ∧ W4.frozen? ⟨w.heap.size + 1, 1, none⟩ = false) :=
    ⟨cell_of_heap h0 rfl, cell_of_heap h0 rfl, cell_of_heap h1 rfl, cell_of_heap h1 rfl, frozen_of_heap h1, frozen_of_heap h1⟩
  have HB4 := hide B4
  have HS4 := hide s4
  have HR := hide R
  have HH := hide H
  have HCF := hide hcf
  have HROW : Hid (∀ j, j < l.length → ∃ b off, a1 = some ⟨b, off, none⟩ ∧ b < w.heap.size ∧ w.cell? ⟨b, off + j, none⟩ = some (.int .i64 (gI l j))) := fun j h => hrow h
  have HROWS : Hid (∀ j, j < S.length → ∃ b off, aS = some ⟨b, off, none⟩ ∧ b < w.heap.size ∧ w.cell? ⟨b, off + j, none⟩ = some (.int .i64 (gI S j))) := fun j h => hrowS h
  clear h0 h1 h2 h3 s4 B4 hc hcf H R hrow hrowS hl
  generalize hT : (fun i : Nat => ((.int .i64 (cAt cs (st + dot S (digits l i)).toNat).1, .int .i64 (cAt cs (st + dot S (digits l i)).toNat).2.1, .slice (ab (st + dot S (digits l i)).toNat) (cAt cs (st + dot S (digits l i)).toNat).2.2.length (cb (st + dot S (digits l i)).toNat)) : Value × Value × Value)) = T at RC
  have HTT := hide hT
  clear hT
  go_enter Try.func63, Try.ntmps63
  go_wp2
  go_step3
  go_wp2
  go_step3
  go_wp2
  rw [← e4]
  clear mk1 mk2 e4
  go_loopg [9, 23] cs.length (fun g fv i wr => ∃ (j : Nat) (F : Int) (A : List Int), g + j = cs.length ∧ i = .int .i64 (j : Int) ∧ fv = .int .i64 F ∧ A.length = l.length ∧ Soft wr (w.heap.size + 3) A ∧ wr.rowIs (w.heap.size + 2) 36 (cs.length * 3) (gF T j) ∧ Two W4 (w.heap.size + 2) (w.heap.size + 3) wr ∧ (j < cs.length → A = digits l j ∧ F = st + dot S A))
  case atStart => exact ⟨0, st, _, rfl, rfl, rfl, List.length_replicate, RA.out, RC.out, Two.refl _ _ _, fun h => ⟨(digits_zero l).symm, by rw [dot_zero]; omega⟩⟩
  case round =>
    clear RA RC
    obtain ⟨j, F, A, hg, rfl, rfl, hA, hrA, hrC, htw, hjj⟩ := hrel
    obtain ⟨q0, q1, q2, q3, q4, q5⟩ := Q.out
    have t0 := htw.cell (b := w.heap.size) (by omega) (by omega) q0
    have t1 := htw.cell (b := w.heap.size) (by omega) (by omega) q1
    clear q0 q1
    by_cases hlt : j < cs.length
    · clear q2 q3 q4 q5
      obtain ⟨rfl, hFe⟩ := hjj hlt
      obtain ⟨hpos, hprod, hSb, hlead⟩ := HH.out (by omega)
      obtain ⟨b, off, rfl, hlob, hb, hcells⟩ := HCF.out (by omega)
      obtain ⟨hin, hpl⟩ := digits_in (l := l) hpos (n := (j : Int)) (by omega) (by omega)
      obtain ⟨hF0, hF1⟩ := hlead _ hin
      rw [← hFe] at hF0 hF1
      obtain ⟨p, rfl⟩ : ∃ p : Nat, F = (p : Int) := ⟨F.toNat, by omega⟩
      have hBW : Below w.heap.size w wr := htw.below HB4.out (by omega) (by omega)
      obtain ⟨c0, c1', c2', -⟩ := hcells p (by omega)
      have u0 := (hBW.cell (p := ⟨b, off + p * 3, none⟩) hb).trans c0
      have u1 := (hBW.cell (p := ⟨b, off + p * 3 + 1, none⟩) hb).trans c1'
      have u2 := (hBW.cell (p := ⟨b, off + p * 3 + 2, none⟩) hb).trans c2'
      have HTj : Hid (T j = (.int .i64 (cAt cs p).1, .int .i64 (cAt cs p).2.1, .slice (ab p) (cAt cs p).2.2.length (cb p))) := by
        unfold Hid
        rw [← HTT.out]
        simp only [← hFe, Int.toNat_natCast]
      clear c0 c1' c2' hcells
      generalize (cAt cs p).1 = kk at *
      generalize (cAt cs p).2.1 = NN at *
      generalize (cAt cs p).2.2.length = nb at *
      generalize ab p = abp at *
      generalize cb p = cbp at *
      have z0 := hrC.cell (i := j * 3) (by omega)
      have z1 := hrC.cell (i := j * 3 + 1) (by omega)
      have z2 := hrC.cell (i := j * 3 + 2) (by omega)
      have y0 := hrC.frozen (j * 3)
      have y1 := hrC.frozen (j * 3 + 1)
      have y2 := hrC.frozen (j * 3 + 2)
      have HS := hide ((((hrC.set (j * 3) (.int .i64 kk)).set (j * 3 + 1) (.int .i64 NN)).set (j * 3 + 2) (.slice abp nb cbp)).congr (g := gF T (j + 1)) (fun i _ => by rw [gF_step T j i, HTj.out]))
      have HA3 : Hid (Soft (((wr.setCell ⟨w.heap.size + 2, j * 3, none⟩ (.int .i64 kk)).setCell ⟨w.heap.size + 2, j * 3 + 1, none⟩ (.int .i64 NN)).setCell ⟨w.heap.size + 2, j * 3 + 2, none⟩ (.slice abp nb cbp)) (w.heap.size + 3) (digits l j)) := by
        refine World.rowIs.of_block hrA ?_
        rw [Below.heap_setCell _ _ _ _ (by show w.heap.size + 3 ≠ w.heap.size + 2; omega), Below.heap_setCell _ _ _ _ (by show w.heap.size + 3 ≠ w.heap.size + 2; omega), Below.heap_setCell _ _ _ _ (by show w.heap.size + 3 ≠ w.heap.size + 2; omega)]
      have HTW := hide (((htw.set1 (j * 3) (.int .i64 kk)).set1 (j * 3 + 1) (.int .i64 NN)).set1 (j * 3 + 2) (.slice abp nb cbp))
      have HIN := hide (And.intro hin (And.intro hpl hFe))
      have HPP := hide (And.intro hpos (And.intro hprod (And.intro hSb hlead)))
      generalize gF T j (j * 3) = g0 at *
      generalize gF T j (j * 3 + 1) = g1 at *
      generalize gF T j (j * 3 + 2) = g2 at *
      clear hrC hrA htw hjj hin hpl hFe hpos hprod hSb hlead HTj HCF t0
      go_wp2
      clear z0 z1 z2 y0 y1 y2 u0 u1 u2 t1 hBW
      go_loopg [9, 11] l.length (fun g fv ax wr => ∃ (F : Int) (A : List Int), g ≤ l.length ∧ ax = .int .i64 ((g : Int) - 1) ∧ fv = .int .i64 F ∧ A.length = l.length ∧ Soft wr (w.heap.size + 3) A ∧ wr.rowIs (w.heap.size + 2) 36 (cs.length * 3) (gF T (j + 1)) ∧ Two W4 (w.heap.size + 2) (w.heap.size + 3) wr ∧ inAxes l A ∧ place l A + prodL (l.drop g) = (j : Int) + 1 ∧ F = st + dot S A)
      case atStart => exact ⟨(p : Int), digits l j, Nat.le_refl _, by go_num, rfl, digits_length _ _, HA3.out, HS.out, HTW.out, HIN.out.1, by rw [HIN.out.2.1]; simp [prodL], HIN.out.2.2⟩
      case round =>
        clear HA3 HS HTW HIN
        obtain ⟨F, A, hgl, rfl, rfl, hA, hrA, hrC, htw, hin, hpl, hFe⟩ := hrel
        have HPL := hide hpl
        have HFE := hide hFe
        have HIN := hide hin
        obtain ⟨hF0, hF1⟩ := HPP.out.2.2.2 A hin
        rw [← hFe] at hF0 hF1
        clear hpl hFe
        cases gk with
        | zero =>
          have HE : Hid (¬ j + 1 < cs.length) := by
            have h1 := HPL.out
            have h2 := (place_bound hin).2.1
            have h3 := HPP.out.2.1
            rw [List.drop_zero, h3] at h1
            show ¬ _
            omega
          have HRA := hide hrA
          have HRC := hide hrC
          clear hrA hrC hin
          go_wp2
          go_roundg (cs.length - (j + 1))
          case rel => exact ⟨j + 1, F, A, by omega, by go_num, rfl, hA, HRA.out, HRC.out, htw, fun h => absurd h HE.out⟩
          case measure => omega
        | succ m =>
          obtain ⟨b1, o1, rfl, hb1, hl1⟩ := HROW.out m (by omega)
          obtain ⟨bS, oS, rfl, hbS, hlS⟩ := HROWS.out m (by omega)
          have e1 : ((m + 1 : Nat) : Int) - 1 = (m : Int) := by omega
          rw [e1]
          have hBW : Below w.heap.size w wr := htw.below HB4.out (by omega) (by omega)
          have hin2 := (inAxes_gI l A).1 hin
          obtain ⟨hal0, hal1⟩ := hin2.2 m (by omega)
          obtain ⟨hsi0, hsi1⟩ := HPP.out.2.2.1 m (by omega)
          have hla1 : gI l m ≤ 16384 := by
            have := prod_of_mem HPP.out.1 (getD_mem (l := l) (k := m) (by omega))
            have h3 := HPP.out.2.1
            unfold gI
            omega
          have hc := World.rowIs.cell (i := m) hrA (by omega)
          have hfz := World.rowIs.frozen hrA m
          have tw1 := htw.set2 m (.int .i64 (gI A m + 1))
          have q0 := Q.out.1
          have x0 := tw1.cell (b := w.heap.size) (by omega) (by omega) q0
          have BW1 : Below w.heap.size w (wr.setCell ⟨w.heap.size + 3, m, none⟩ (.int .i64 (gI A m + 1))) := tw1.below HB4.out (by omega) (by omega)
          have x1 := (BW1.cell (p := ⟨b1, o1 + m, none⟩) hb1).trans hl1
          have x2 := (BW1.cell (p := ⟨bS, oS + m, none⟩) hbS).trans hlS
          have dS : dot S (A.set m (gI A m + 1)) = dot S A + gI S m * 1 := by rw [dot_set _ _ _ _ (by omega) (by omega)]; congr 2; omega
          have dZ : dot S (A.set m 0) = dot S A - gI S m * gI A m := by rw [dot_set _ _ _ _ (by omega) (by omega), Int.mul_sub]; omega
          have HD := hide (And.intro dS dZ)
          have HROWC : Hid (∀ v, (wr.setCell ⟨w.heap.size + 3, m, none⟩ v).rowIs (w.heap.size + 2) 36 (cs.length * 3) (gF T (j + 1))) := fun v => hrC.of_block (Below.heap_setCell _ _ _ _ (by show w.heap.size + 2 ≠ w.heap.size + 3; omega))
          by_cases hlt2 : gI A m + 1 < gI l m
          · have HTK := hide (tick_done (k := m) (by omega) hin HPL.out hlt2)
            have HSO := hide (hrA.set m (gI A m + 1))
            have HTW := hide tw1
            generalize gI A m = al at *
            generalize gI l m = la at *
            generalize gI S m = si at *
            clear hrA hrC hin hin2 htw tw1 BW1 hl1 hlS q0 dS dZ
            go_wp2
            go_region
            all_goals
              go_wp2
              go_roundg (cs.length - (j + 1))
              case rel => exact ⟨j + 1, F + si, A.set m (al + 1), by omega, by go_num, by go_num, by simpa using hA, HSO.out, HROWC.out _, HTW.out.drew, fun _ => ⟨HTK.out.2, by rw [HD.out.1, HFE.out]; omega⟩⟩
              case measure => omega
          · have HTK := hide (tick_on (k := m) (by omega) hin HPL.out hlt2)
            have HSO := hide (hrA.set m 0)
            have HTW := hide (htw.set2 m (.int .i64 0))
            have HSO2 : Hid (Soft ((wr.setCell ⟨w.heap.size + 3, m, none⟩ (.int .i64 (gI A m + 1))).setCell ⟨w.heap.size + 3, m, none⟩ (.int .i64 0)) (w.heap.size + 3) (A.set m 0)) := by
              have := (hrA.set m (gI A m + 1)).set m 0
              rw [List.set_set] at this
              exact this
            have HROWC2 : Hid (∀ u v, ((wr.setCell ⟨w.heap.size + 3, m, none⟩ u).setCell ⟨w.heap.size + 3, m, none⟩ v).rowIs (w.heap.size + 2) 36 (cs.length * 3) (gF T (j + 1))) := fun u v => (HROWC.out u).of_block (Below.heap_setCell _ _ _ _ (by show w.heap.size + 2 ≠ w.heap.size + 3; omega))
            have HTW2 := hide (tw1.set2 m (.int .i64 0))
            have hP : -268435456 ≤ gI S m * (gI A m + 1) ∧ gI S m * (gI A m + 1) ≤ 268435456 := by
              have a1 := Int.mul_le_mul_of_nonneg_right hsi1 (show 0 ≤ gI A m + 1 by omega)
              have a2 := Int.mul_le_mul_of_nonneg_right hsi0 (show 0 ≤ gI A m + 1 by omega)
              omega
            have HM : Hid (gI S m * (gI A m + 1) = gI S m * gI A m + gI S m) := by unfold Hid; rw [Int.mul_add, Int.mul_one]
            obtain ⟨hP0, hP1⟩ := hP
            generalize gI A m = al at *
            generalize gI l m = la at *
            generalize gI S m = si at *
            clear hrA hrC hin hin2 htw tw1 BW1 hl1 hlS q0 dS dZ
            go_wp2
            go_region
            all_goals
              go_wp2
              go_region
              all_goals
                go_wp2
                go_roundg m
                case rel => first
                  | exact ⟨F + si - si * (al + 1), A.set m 0, by omega, by go_num, by go_num, by simpa using hA, HSO.out, HROWC.out _, HTW.out.drew.drew, HTK.out.1, HTK.out.2, by rw [HD.out.2, HFE.out, HM.out]; omega⟩
                  | exact ⟨F + si - si * (al + 1), A.set m 0, by omega, by go_num, by go_num, by simpa using hA, HSO2.out, HROWC2.out _ _, HTW2.out.drew.drew, HTK.out.1, HTK.out.2, by rw [HD.out.2, HFE.out, HM.out]; omega⟩
                case measure => omega
    · have hje : j = cs.length := by omega
      subst hje
      have t2 := htw.cell (b := w.heap.size + 1) (by omega) (by omega) q2
      have t3 := htw.cell (b := w.heap.size + 1) (by omega) (by omega) q3
      have t4 := htw.frozen (b := w.heap.size + 1) (by omega) (by omega) q4
      have t5 := htw.frozen (b := w.heap.size + 1) (by omega) (by omega) q5
      have HT := hide (set_two t2 t3 (.slice a1 l.length c1) (.slice (some ⟨w.heap.size + 2, 0, none⟩) cs.length cs.length))
      have HFIN : Hid (∀ u v, (ArIn (n + 1) lo ((wr.setCell ⟨w.heap.size + 1, 0, none⟩ u).setCell ⟨w.heap.size + 1, 1, none⟩ v) (.mk l (gathL l cs st S)) (.agg #[.slice a1 l.length c1, .slice (some ⟨w.heap.size + 2, 0, none⟩) cs.length cs.length])) ∧ Below w.heap.size w ((wr.setCell ⟨w.heap.size + 1, 0, none⟩ u).setCell ⟨w.heap.size + 1, 1, none⟩ v)) := by
        intro u v
        have BW : Below w.heap.size w ((wr.setCell ⟨w.heap.size + 1, 0, none⟩ u).setCell ⟨w.heap.size + 1, 1, none⟩ v) := ((htw.below HB4.out (by omega) (by omega)).setCell (p := ⟨w.heap.size + 1, 0, none⟩) (by show w.heap.size ≤ w.heap.size + 1; omega) u).setCell (p := ⟨w.heap.size + 1, 1, none⟩) (by show w.heap.size ≤ w.heap.size + 1; omega) v
        have hr' : ((wr.setCell ⟨w.heap.size + 1, 0, none⟩ u).setCell ⟨w.heap.size + 1, 1, none⟩ v).rowIs (w.heap.size + 2) 36 (cs.length * 3) (gF T cs.length) := hrC.of_block (by rw [Below.heap_setCell _ _ _ _ (by show w.heap.size + 2 ≠ w.heap.size + 1; omega), Below.heap_setCell _ _ _ _ (by show w.heap.size + 2 ≠ w.heap.size + 1; omega)])
        refine ⟨arIn_mk (x := .mk l (gathL l cs st S)) (HR.out.next BW) (by simp only [Ar.cells, gathL, mkCs_len]; omega) ?_ rfl (by simp only [Ar.cells, gathL, mkCs_len]), BW⟩
        by_cases h0 : 0 < cs.length
        · obtain ⟨hpos, hprod, hSb, hlead⟩ := HH.out h0
          obtain ⟨b, off, -, hlob, hb, hcells⟩ := HCF.out h0
          have hs4 := HS4.out
          have hsz := htw.size
          refine Or.inr ⟨w.heap.size + 2, 0, rfl, by omega, by simp; omega, fun i hi => ?_⟩
          simp only [Ar.cells, gathL, mkCs_len] at hi
          obtain ⟨hin, -⟩ := digits_in (l := l) hpos (n := (i : Int)) (by omega) (by omega)
          obtain ⟨hF0, hF1⟩ := hlead _ hin
          obtain ⟨-, -, -, hce⟩ := hcells (st + dot S (digits l i)).toNat (by omega)
          obtain ⟨g0, g1, g2⟩ := gF_at T cs.length i hi
          rw [Nat.zero_add]
          refine ⟨_, _, _, hr'.cell (i := i * 3) (by omega), hr'.cell (i := i * 3 + 1) (by omega), hr'.cell (i := i * 3 + 2) (by omega), ?_⟩
          rw [g0, g1, g2, ← HTT.out]
          simp only [Ar.cells, gathL]
          rw [mkCs_at _ _ _ hi]
          exact hce.mono (Nat.le_refl _) BW fun x v h => h.next BW
        · refine Or.inl (List.eq_nil_of_length_eq_zero ?_)
          simp only [Ar.cells, gathL, mkCs_len]
          omega
      clear hrA hrC htw q2 q3 q4 q5 hjj HCF HH HR HROW HROWS HB4 HS4 HTT Q
      go_wp2
      rw [Exit.noGoto_ret]
      exact bodyPost_ret (v := .agg #[.slice a1 l.length c1, .slice (some ⟨w.heap.size + 2, 0, none⟩) cs.length cs.length]) (by simp [results, Try.results63, go_sem, HT.out.1, HT.out.2]) rfl ⟨⟨_, rfl, (HFIN.out _ _).1⟩, (HFIN.out _ _).2⟩
end Go.Proofs.Ytmjncdhahdpplaa
namespace Go.Proofs.Ytmjncdhahdpplaa
open Go.ChangeShapes Go.WideShapes Go.ChangeAt Go.RowKit
set_option linter.unusedVariables false
set_option maxRecDepth 100000
def zeroA : Ar := .mk [] []
def tallyN (x : Ar) : Int := if x.shape.length = 0 then 1 else gI x.shape 0
def isC (c : Ce) : Bool := decide (c.1 = 0) && decide (0 ≤ c.2.1)
def upL (m : Nat) : List Int := (List.range m).map fun i : Nat => (i : Int)
def iotaR (x : Ar) : Ar × Int := if 0 < x.shape.length then (zeroA, 6) else if isC (cAt x.cells 0) = false then (zeroA, 5) else if 16384 < (cAt x.cells 0).2.1 then (zeroA, 12) else (numsA (upL (cAt x.cells 0).2.1.toNat), 0)
def revR (x : Ar) (k : Nat) : Ar := if x.shape.length = 0 then x else .mk x.shape (mkCs x.cells.length fun i => cAt x.cells (place x.shape (turnL x.shape (digits x.shape i) k)).toNat)
def flipR (x : Ar) : Ar := .mk x.shape.reverse (mkCs x.cells.length fun i => cAt x.cells (place x.shape (digits x.shape.reverse i).reverse).toNat)
def ravelR (x : Ar) : Ar := .mk [(x.cells.length : Int)] x.cells
def enclR (n : Nat) (x : Ar) : Ar × Int := if 8 ≤ deepA n x then (zeroA, 15) else (.mk [] [(2, 0, [x])], 0)
def discR (x : Ar) : Ar × Int := if 0 < x.shape.length then (zeroA, 6) else if (cAt x.cells 0).1 = 2 then (bAt (cAt x.cells 0).2.2 0, 0) else (x, 0)
def itemR (x : Ar) : Ar := .mk x.shape.tail (x.cells.take (x.cells.length / (tallyN x).toNat))
def firstR (x : Ar) : Ar × Int := if tallyN x = 0 then (zeroA, 8) else if x.shape.length = 0 then (x, 0) else (itemR x, 0)
def listR (x : Ar) : Ar × Int := if 8 ≤ x.shape.length then (zeroA, 6) else (.mk (1 :: x.shape) x.cells, 0)
/-- What Mo tells of an array of depth n. -/
def moR (n : Nat) (op : Int) (x : Ar) : Ar × Int :=
  if chkA 8 x ≠ 0 then (zeroA, chkA 8 x) else
  if op = 5 then iotaR x else if op = 6 then (numsA x.shape, 0) else if op = 7 then (atomA (tallyN x), 0) else if op = 8 then (ravelR x, 0) else
  if op = 9 then (revR x 0, 0) else if op = 10 then (revR x (x.shape.length - 1), 0) else if op = 11 then (flipR x, 0) else
  if op = 15 then enclR n x else if op = 16 then discR x else if op = 17 then firstR x else if op = 18 then listR x else (zeroA, 1)
theorem upL_len (m : Nat) : (upL m).length = m := by simp [upL]
theorem upL_at (m i : Nat) (hi : i < m) : gI (upL m) i = (i : Int) := by simp [gI, upL, hi]
theorem zeroA_in (n lo : Nat) (w : World) : ArIn (n + 1) lo w zeroA (.agg #[.slice none 0 0, .slice none 0 0]) := arIn_mk (x := zeroA) (row_nil _ _ _) (by simp [zeroA, Ar.cells]) (Or.inl rfl) rfl rfl
def Gives2 (n lo : Nat) (x : Ar) (E : Int) (w : World) (e : Ending) (w' : World) : Prop := (∃ v, e = .returned (.tuple #[v, .int .i64 E]) ∧ ArIn n lo w' x v) ∧ Below w.heap.size w w'
theorem gives2_of {n lo : Nat} {x : Ar} {E : Int} {w w' : World} {v : Value} {R : Ar × Int} (hR : R = (x, E)) (hx : ArIn n lo w' x v) (hb : Below w.heap.size w w') : Gives2 n lo R.1 R.2 w (.returned (.tuple #[v, .int .i64 E])) w' := by
  subst hR
  exact ⟨⟨_, rfl, hx⟩, hb⟩
/-- A world in which the boxed argument (block s) and the answer's place (block s + 1) still lie as they were made. -/
structure In2 (w : World) (v0 v1 : Value) (W : World) : Prop where
  bel : Below w.heap.size w W
  size : w.heap.size + 2 ≤ W.heap.size
  q0 : W.cell? ⟨w.heap.size, 0, none⟩ = some v0
  q1 : W.cell? ⟨w.heap.size, 1, none⟩ = some v1
  p0 : W.cell? ⟨w.heap.size + 1, 0, none⟩ = some (.slice none 0 0)
  p1 : W.cell? ⟨w.heap.size + 1, 1, none⟩ = some (.slice none 0 0)
  f0 : W.frozen? ⟨w.heap.size + 1, 0, none⟩ = false
  f1 : W.frozen? ⟨w.heap.size + 1, 1, none⟩ = false
theorem frozen_new1 (w : World) (c : Array Value) (t : TypeId) (o : Obj) (i : Nat) : ((w.alloc o).alloc (.cells c t)).frozen? ⟨w.heap.size + 1, i, none⟩ = false := by
  have := frozen_new (w.alloc o) c t i
  have s1 : (w.alloc o).heap.size = w.heap.size + 1 := by simp
  rw [s1] at this
  exact this
theorem in2_new (w : World) (v0 v1 : Value) : In2 w v0 v1 ((w.alloc (.cells #[v0, v1] 25)).alloc (.cells #[.slice none 0 0, .slice none 0 0] 25)) :=
  ⟨two_allocs _ _ _, by simp, cell_new1 w _ 25 (0, 0) _ 0 _ rfl, cell_new1 w _ 25 (0, 0) _ 1 _ rfl, cell_new2 w _ 25 (0, 0) _ 0 _ rfl, cell_new2 w _ 25 (0, 0) _ 1 _ rfl, frozen_new1 _ _ _ _ _, frozen_new1 _ _ _ _ _⟩
theorem In2.next {w W W' : World} {v0 v1 : Value} (h : In2 w v0 v1 W) (hb : Below W.heap.size W W') : In2 w v0 v1 W' := by
  have s := h.size
  refine ⟨h.bel.trans (hb.mono h.bel.size), Nat.le_trans s hb.size, ?_, ?_, ?_, ?_, ?_, ?_⟩
  · exact (hb.cell (p := ⟨w.heap.size, 0, none⟩) (by show w.heap.size < _; omega)).trans h.q0
  · exact (hb.cell (p := ⟨w.heap.size, 1, none⟩) (by show w.heap.size < _; omega)).trans h.q1
  · exact (hb.cell (p := ⟨w.heap.size + 1, 0, none⟩) (by show w.heap.size + 1 < _; omega)).trans h.p0
  · exact (hb.cell (p := ⟨w.heap.size + 1, 1, none⟩) (by show w.heap.size + 1 < _; omega)).trans h.p1
  · exact (hb.frozen (p := ⟨w.heap.size + 1, 0, none⟩) (by show w.heap.size + 1 < _; omega)).trans h.f0
  · exact (hb.frozen (p := ⟨w.heap.size + 1, 1, none⟩) (by show w.heap.size + 1 < _; omega)).trans h.f1
theorem In2.drew {w W : World} {v0 v1 : Value} (h : In2 w v0 v1 W) : In2 w v0 v1 W.drew := h.next (Below.refl _ _).drew
theorem In2.alloc {w W : World} {v0 v1 : Value} (h : In2 w v0 v1 W) (o : Obj) : In2 w v0 v1 (W.alloc o) := h.next (one_alloc _ _)
/-- A store behind the answer's place. -/
theorem In2.set {w W : World} {v0 v1 : Value} (h : In2 w v0 v1 W) {b i : Nat} (hb : w.heap.size + 2 ≤ b) (v : Value) : In2 w v0 v1 (W.setCell ⟨b, i, none⟩ v) := by
  have s := h.size
  have hk : Below (w.heap.size + 2) W (W.setCell ⟨b, i, none⟩ v) := (Below.refl _ _).setCell (p := ⟨b, i, none⟩) hb v
  refine ⟨h.bel.setCell (p := ⟨b, i, none⟩) (by show w.heap.size ≤ b; omega) v, Nat.le_trans s hk.size, ?_, ?_, ?_, ?_, ?_, ?_⟩
  · exact (hk.cell (p := ⟨w.heap.size, 0, none⟩) (by show w.heap.size < _; omega)).trans h.q0
  · exact (hk.cell (p := ⟨w.heap.size, 1, none⟩) (by show w.heap.size < _; omega)).trans h.q1
  · exact (hk.cell (p := ⟨w.heap.size + 1, 0, none⟩) (by show w.heap.size + 1 < _; omega)).trans h.p0
  · exact (hk.cell (p := ⟨w.heap.size + 1, 1, none⟩) (by show w.heap.size + 1 < _; omega)).trans h.p1
  · exact (hk.frozen (p := ⟨w.heap.size + 1, 0, none⟩) (by show w.heap.size + 1 < _; omega)).trans h.f0
  · exact (hk.frozen (p := ⟨w.heap.size + 1, 1, none⟩) (by show w.heap.size + 1 < _; omega)).trans h.f1
theorem In2.belowS {w W W' : World} {v0 v1 : Value} {B : Nat} (h : In2 w v0 v1 W) (hb : Below B W W') (hB : w.heap.size + 2 ≤ B) : In2 w v0 v1 W' := by
  have s := h.size
  have hk := hb.mono hB
  refine ⟨h.bel.trans (hb.mono (by omega)), Nat.le_trans s hk.size, ?_, ?_, ?_, ?_, ?_, ?_⟩
  · exact (hk.cell (p := ⟨w.heap.size, 0, none⟩) (by show w.heap.size < _; omega)).trans h.q0
  · exact (hk.cell (p := ⟨w.heap.size, 1, none⟩) (by show w.heap.size < _; omega)).trans h.q1
  · exact (hk.cell (p := ⟨w.heap.size + 1, 0, none⟩) (by show w.heap.size + 1 < _; omega)).trans h.p0
  · exact (hk.cell (p := ⟨w.heap.size + 1, 1, none⟩) (by show w.heap.size + 1 < _; omega)).trans h.p1
  · exact (hk.frozen (p := ⟨w.heap.size + 1, 0, none⟩) (by show w.heap.size + 1 < _; omega)).trans h.f0
  · exact (hk.frozen (p := ⟨w.heap.size + 1, 1, none⟩) (by show w.heap.size + 1 < _; omega)).trans h.f1
/-- The answer laid into its place: what is read there, and what was told stays. -/
theorem In2.put {w W : World} {v0 v1 : Value} (h : In2 w v0 v1 W) (u v : Value) : ((W.setCell ⟨w.heap.size + 1, 0, none⟩ u).cell? ⟨w.heap.size + 1, 0, none⟩ = some u ∧ ((W.setCell ⟨w.heap.size + 1, 0, none⟩ u).setCell ⟨w.heap.size + 1, 1, none⟩ v).cell? ⟨w.heap.size + 1, 1, none⟩ = some v) := set_two h.p0 h.p1 u v
theorem In2.fin {w W : World} {v0 v1 : Value} (h : In2 w v0 v1 W) (u v : Value) : Below w.heap.size w ((W.setCell ⟨w.heap.size + 1, 0, none⟩ u).setCell ⟨w.heap.size + 1, 1, none⟩ v) :=
  (h.bel.setCell (p := ⟨w.heap.size + 1, 0, none⟩) (by show w.heap.size ≤ w.heap.size + 1; omega) u).setCell (p := ⟨w.heap.size + 1, 1, none⟩) (by show w.heap.size ≤ w.heap.size + 1; omega) v
theorem In2.give {w W : World} {v0 v1 : Value} (h : In2 w v0 v1 W) {n lo : Nat} {x : Ar} {va : Value} (hx : ArIn n lo W x va) (hlo : w.heap.size + 2 ≤ lo) (u v : Value) : ArIn n w.heap.size ((W.setCell ⟨w.heap.size + 1, 0, none⟩ u).setCell ⟨w.heap.size + 1, 1, none⟩ v) x va := by
  have hk : Keeps (w.heap.size + 2) W ((W.setCell ⟨w.heap.size + 1, 0, none⟩ u).setCell ⟨w.heap.size + 1, 1, none⟩ v) := ((Keeps.refl _ _).setCell (p := ⟨w.heap.size + 1, 0, none⟩) (by show w.heap.size + 1 < _; omega) u).setCell (p := ⟨w.heap.size + 1, 1, none⟩) (by show w.heap.size + 1 < _; omega) v
  exact ((hx.mono hlo (Below.refl _ _)).keeps hk).mono (by omega) (Below.refl _ _)
theorem copyA {n r lo : Nat} {x : Ar} {va : Value} {w : World} (hc : chkA r x = 0) (hx : ArIn n lo w x va) : Calls Try.prog 30 #[va] w fun e w' => GivesA n x w e w' :=
  (copy_any n r x lo va w hc hx).mono fun e w' ⟨h, hb⟩ => ⟨h, hb.b⟩
/-- An array's value, opened. -/
theorem ArIn.form {n lo : Nat} {w : World} {x : Ar} {v : Value} (h : ArIn (n + 1) lo w x v) : ∃ a1 c1 a2 c2, v = .agg #[.slice a1 x.shape.length c1, .slice a2 x.cells.length c2] ∧ Row lo w a1 x.shape ∧ CellsIn n lo w x.cells a2 := by
  obtain ⟨a1, c1, a2, c2, h1, h2, -, h3⟩ := h
  exact ⟨a1, c1, a2, c2, h1, h2, h3⟩
/-- What is known of an array that may be. -/
theorem chk_len {r : Nat} {x : Ar} (h : chkA r x = 0) : x.shape.length ≤ 8 ∧ x.cells.length ≤ 16384 := by
  obtain ⟨f, -, h1, h2, -⟩ := chk_ok h
  exact ⟨h1, h2⟩
/-- The steps of an array that may be. -/
theorem chk_axes {r : Nat} {x : Ar} (h : chkA r x = 0) : (∀ z ∈ x.shape, 0 ≤ z ∧ z ≤ 16384) ∧ (0 < x.cells.length → (∀ z ∈ x.shape, 0 < z) ∧ prodL x.shape = x.cells.length) ∧ (x.cells.length = 0 → hasZero x.shape) := by
  obtain ⟨h1, h2, h3, h4⟩ := (chkA_iff r x).1 h
  obtain ⟨g1, g2, g3⟩ := fine_cases h1
  refine ⟨fun z hz => ⟨g2 z hz, ?_⟩, fun h0 => ?_, fun h0 => ?_⟩
  · rcases Int.lt_or_le 16384 z with hlt | hle
    · exact absurd ⟨z, hz, hlt⟩ h3
    · exact hle
  · rcases g3 with ⟨-, g3⟩ | ⟨g3, g4, g5⟩
    · omega
    · exact ⟨g3, by omega⟩
  · rcases g3 with ⟨g3, -⟩ | ⟨g3, g4, g5⟩
    · exact g3
    · have := prodL_pos g3; omega
end Go.Proofs.Ytmjncdhahdpplaa
namespace Go.Proofs.Ytmjncdhahdpplaa
open Go.ChangeShapes Go.WideShapes Go.ChangeAt Go.RowKit
set_option linter.unusedVariables false
set_option maxRecDepth 100000
theorem int2 : (Try.prog.info? 2).map (fun i => (i.zero, i.size, i.bytes)) = some (some (.int .i64 0), 1, 8) := by kernel_rfl
/-- A row of int64 that is filled as far as j. -/
def toF (l : List Int) (j m : Nat) : Value := .int .i64 (if m < j then gI l m else 0)
theorem toF_step (l : List Int) (j m : Nat) : toF l (j + 1) m = if m = j then .int .i64 (gI l j) else toF l j m := by
  unfold toF
  by_cases h : m = j
  · subst h; rw [if_pos rfl, if_pos (by omega)]
  · rw [if_neg h]; congr 1
    by_cases h2 : m < j
    · rw [if_pos h2, if_pos (by omega)]
    · rw [if_neg h2, if_neg (by omega)]
theorem row_toF {w : World} {b lo : Nat} {l : List Int} (h : w.rowIs b 2 l.length (toF l l.length)) (hlo : lo ≤ b) (hl : l.length ≤ 140737488355328) : Row lo w (some ⟨b, 0, none⟩) l := by
  refine ⟨hl, ?_⟩
  by_cases h0 : l = []
  · exact Or.inl h0
  · have h' := h
    obtain ⟨c, h1, -⟩ := h'
    exact Or.inr ⟨b, 0, rfl, hlo, lt_of_block h1, fun i hi => by rw [Nat.zero_add, h.cell hi]; unfold toF; rw [if_pos hi]; rfl⟩
set_option maxHeartbeats 2000000 in
theorem axes_any {lo : Nat} (n : Nat) (l : List Int) (a : Option Addr) (cap : Nat) (w : World) (R : Row lo w a l) (hl : l.length ≤ 8) :
    Calls Try.prog 27 #[.slice a l.length cap] w fun e w' => GivesA (n + 1) (numsA l) w e w' := by
  have HR : Hid (∀ j, j < l.length → ∃ b off, a = some ⟨b, off, none⟩ ∧ b < w.heap.size ∧ w.cell? ⟨b, off + j, none⟩ = some (.int .i64 (gI l j))) := fun j h => row_at R h
  have mk := run_make_row' (P := Try.prog) 47 2 (.int .i64 0) 8 Try.underlying47 int2 rfl .i64 .i64 l.length (by omega) (by omega)
  obtain ⟨W1, e1⟩ : ∃ W1, W1 = w.alloc (.cells #[.slice none 0 0, .slice none 0 0] 25) := ⟨_, rfl⟩
  have s1 : W1.heap.size = w.heap.size + 1 := by rw [e1]; simp
  have B1 : Below w.heap.size w W1 := by rw [e1]; exact one_alloc _ _
  have p0 : W1.cell? ⟨w.heap.size, 0, none⟩ = some (.slice none 0 0) := by rw [e1]; exact cell_new0 w _ 25 0 _ rfl
  have p1 : W1.cell? ⟨w.heap.size, 1, none⟩ = some (.slice none 0 0) := by rw [e1]; exact cell_new0 w _ 25 1 _ rfl
  have pf : ∀ i, W1.frozen? ⟨w.heap.size, i, none⟩ = false := by intro i; rw [e1]; exact frozen_new w _ 25 i
  have RM : Hid ((W1.alloc (.cells (madeCells #[.int .i64 0] l.length) 2)).rowIs (w.heap.size + 1) 2 l.length (toF l 0)) := by
    have := World.rowIs_made W1 (.int .i64 0) l.length 2
    rw [s1] at this
    exact this.congr fun i hi => by unfold toF; rw [if_neg (by omega)]
  have HP := hide (And.intro s1 (And.intro B1 (And.intro p0 (And.intro p1 pf))))
  have BM : Hid (Below (w.heap.size + 1) W1 (W1.alloc (.cells (madeCells #[.int .i64 0] l.length) 2))) := by rw [← s1]; exact one_alloc _ _
  clear R s1 B1 p0 p1 pf
  go_enter Try.func27, Try.ntmps27
  go_wp2
  rw [← e1]
  clear mk e1
  go_loopw [11] (fun i wr => ∃ j : Nat, j ≤ l.length ∧ i = .int .i64 (j : Int) ∧ Below (w.heap.size + 1) W1 wr ∧ wr.rowIs (w.heap.size + 1) 2 l.length (toF l j)) (fun i _ => l.length - (intOf i).toNat)
  case atStart => exact ⟨0, Nat.zero_le _, rfl, BM.out, RM.out⟩
  case round =>
    clear BM RM
    obtain ⟨j, hj, rfl, hnx, hr⟩ := hrel
    have hs1 := HP.out.1
    by_cases hlt : j < l.length
    · obtain ⟨b, off, rfl, hb, hck⟩ := HR.out j hlt
      have hc1 : wr.cell? ⟨b, off + j, none⟩ = some (.int .i64 (gI l j)) := (hnx.cell (p := ⟨b, off + j, none⟩) (by show b < _; omega)).trans ((HP.out.2.1.cell (p := ⟨b, off + j, none⟩) hb).trans hck)
      have z0 := hr.cell (i := j) hlt
      have y0 := hr.frozen j
      have HS := hide ((hr.set j (.int .i64 (gI l j))).congr (g := toF l (j + 1)) (fun i _ => (toF_step l j i).symm))
      have HB := hide (hnx.setCell (p := ⟨w.heap.size + 1, j, none⟩) (Nat.le_refl _) (.int .i64 (gI l j)))
      generalize gI l j = z at *
      generalize toF l j j = y at *
      clear hr hck hs1 HR
      go_wp2
      go_roundw
      case rel => exact ⟨j + 1, by omega, by go_num, HB.out, HS.out⟩
      case measure => simp [intOf]; omega
    · have hje : j = l.length := by omega
      subst hje
      have C := nums_any n l (some ⟨w.heap.size + 1, 0, none⟩) l.length wr (row_toF hr (Nat.le_refl _) (by omega)) (by omega)
      have hlt2 : w.heap.size + 1 ≤ wr.heap.size := by have := hnx.size; omega
      have HN := hide hnx
      clear hr hnx HR hs1
      go_wp2_with fail
      refine C.mono ?_
      rintro e w1 ⟨⟨v, rfl, hv⟩, hb1⟩
      obtain ⟨a1, c1, a2, c2, rfl, -, -⟩ := hv.form
      have hnx := HN.out.trans (hb1.mono hlt2)
      have t0 := (hnx.cell (p := ⟨w.heap.size, 0, none⟩) (by show w.heap.size < _; omega)).trans HP.out.2.2.1
      have t1 := (hnx.cell (p := ⟨w.heap.size, 1, none⟩) (by show w.heap.size < _; omega)).trans HP.out.2.2.2.1
      have f0 := (hnx.frozen (p := ⟨w.heap.size, 0, none⟩) (by show w.heap.size < _; omega)).trans (HP.out.2.2.2.2 0)
      have f1 := (hnx.frozen (p := ⟨w.heap.size, 1, none⟩) (by show w.heap.size < _; omega)).trans (HP.out.2.2.2.2 1)
      have HT := hide (set_two t0 t1 (.slice a1 (numsA l).shape.length c1) (.slice a2 (numsA l).cells.length c2))
      have HF : Hid (∀ x y, GivesA (n + 1) (numsA l) w (.returned (.agg #[.slice a1 (numsA l).shape.length c1, .slice a2 (numsA l).cells.length c2])) ((w1.setCell ⟨w.heap.size, 0, none⟩ x).setCell ⟨w.heap.size, 1, none⟩ y)) := by
        intro x y
        have hk : Keeps (w.heap.size + 1) w1 ((w1.setCell ⟨w.heap.size, 0, none⟩ x).setCell ⟨w.heap.size, 1, none⟩ y) := ((Keeps.refl _ _).setCell (p := ⟨w.heap.size, 0, none⟩) (by show w.heap.size < _; omega) x).setCell (p := ⟨w.heap.size, 1, none⟩) (by show w.heap.size < _; omega) y
        refine ⟨⟨_, rfl, ((hv.mono hlt2 (Below.refl _ _)).keeps hk).mono (by omega) (Below.refl _ _)⟩, ?_⟩
        exact ((HP.out.2.1.trans (hnx.mono (by omega))).setCell (p := ⟨w.heap.size, 0, none⟩) (Nat.le_refl _) _).setCell (p := ⟨w.heap.size, 1, none⟩) (Nat.le_refl _) _
      clear hnx hb1 hv C HN hlt2 HP
      generalize (numsA l).shape.length = SA at *
      generalize (numsA l).cells.length = CA at *
      go_wp2
      exact bodyPost_ret (v := .agg #[.slice a1 SA c1, .slice a2 CA c2]) (by simp [results, Try.results27, go_sem, HT.out.1, HT.out.2]) rfl (HF.out _ _)
theorem tally_any {n lo : Nat} {x : Ar} {va : Value} {w : World} (hx : ArIn (n + 1) lo w x va) : Calls Try.prog 29 #[va] w fun e w' => e = .returned (.int .i64 (tallyN x)) ∧ Below w.heap.size w w' := by
  obtain ⟨a1, c1, a2, c2, rfl, R, -⟩ := hx.form
  have hb0 := one_alloc w (.cells #[.slice a1 x.shape.length c1, .slice a2 x.cells.length c2] 25)
  have q0 := cell_new0 w #[.slice a1 x.shape.length c1, .slice a2 x.cells.length c2] 25 0 _ rfl
  have hl := R.1
  by_cases h0 : x.shape.length = 0
  · have HT : Hid (tallyN x = 1) := by unfold tallyN Hid; rw [if_pos h0]
    have HB := hide hb0
    rw [h0] at q0 ⊢
    clear R hb0 h0
    generalize x.cells.length = CA at *
    go_enter Try.func29, Try.ntmps29
    go_wp2
    go_ret
    exact ⟨by rw [HT.out]; rfl, (one_alloc _ _)⟩
  · obtain ⟨b, off, rfl, hb, hc⟩ := row_at R (j := 0) (by omega)
    have HT : Hid (tallyN x = gI x.shape 0) := by unfold tallyN Hid; rw [if_neg h0]
    have hc1 := (hb0.cell (p := ⟨b, off + 0, none⟩) hb).trans hc
    simp only [Nat.add_zero] at hc1
    have e : x.shape[0]?.getD 0 = gI x.shape 0 := rfl
    rw [e] at hc1
    generalize gI x.shape 0 = z at *
    clear R hb0 hc e
    generalize x.shape.length = SA at *
    generalize x.cells.length = CA at *
    go_enter Try.func29, Try.ntmps29
    go_wp2
    go_ret
    exact ⟨by rw [HT.out]; rfl, (one_alloc _ _)⟩
theorem isCount_any (c : Ce) (ab : Option Addr) (nb cb : Nat) (w : World) : Calls Try.prog 61 #[.agg #[.int .i64 c.1, .int .i64 c.2.1, .slice ab nb cb]] w fun e w' => e = .returned (.bool (isC c)) ∧ Below w.heap.size w w' := by
  obtain ⟨k, N, box⟩ := c
  simp only
  unfold isC
  simp only
  by_cases h0 : k = 0
  · subst h0
    by_cases h1 : 0 ≤ N
    · have hd : decide (0 ≤ N) = true := decide_eq_true h1
      go_enter Try.func61, Try.ntmps61
      go_wp2
      go_ret
      exact ⟨by simp [hd], (one_alloc _ _)⟩
    · have hd : decide (0 ≤ N) = false := decide_eq_false h1
      go_enter Try.func61, Try.ntmps61
      go_wp2
      go_ret
      exact ⟨by simp, (one_alloc _ _)⟩
  · have hk : (k == 0) = false := beq_eq_false_iff_ne.2 h0
    go_enter Try.func61, Try.ntmps61
    go_wp2
    go_ret
    exact ⟨by simp [h0], (one_alloc _ _)⟩
end Go.Proofs.Ytmjncdhahdpplaa
