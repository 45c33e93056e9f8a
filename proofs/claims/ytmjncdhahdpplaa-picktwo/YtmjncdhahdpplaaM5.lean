/-
  The place of a cell one of whose places is changed, in a shape one of whose axes is. Mathematics.
  The contract of the document's Places once more: what it gives may be written.
  Rotations by atoms: what comes has the same shape; twice is once by the sum; by as many as there are is nothing.
  The contract of the document's rot.
  The contract of the document's Item once more, by the values of the cells; cells added in a row.
  The contract of the document's Items.
  The contract of the document's drop, and its items as the pieces' own.
  The contract of the document's often.
  The document's Listed once more (its cells are the argument's); where Rep's cells come from, by places.
-/
import Derived.Test.YtmjncdhahdpplaaM4
import Derived.Test.YtmjncdhahdpplaaChecked
import GoSem.Claim
import GoSem.ClaimJoined
import GoSem.ClaimMapViews
import Derived.JoinedTies
import Derived.KernelRfl
import Derived.WalkKit
import Derived.ProofKit
import Derived.Below
import Derived.Deep.OwnRows
import Derived.Deep.QuietTactic
import Derived.BigQuiet
import Derived.Deep.RegionWith
import Derived.Laws.MakeOwn
import Derived.Deep.RegionHeld3
import Derived.Laws.IdiomCopy
import Derived.Deep.Cut
import Derived.Deep.LoopGhost
import Derived.OpenShut
import Derived.ChangeOld
import Derived.SizedLaws
import Derived.Deep.Slices
import Derived.Deep.Strs
import Derived.Laws.AppendOwn
import Derived.BigFrame
import Derived.Deep.CutRange
import Derived.Deep.RegionLaw
import Derived.Laws.OwnMore
import Derived.Lib.SliceRun
import Derived.Laws.CopyOwn
import Derived.Lib.Overlaps
import Derived.Lib.Mul64
namespace Go.Proofs.Ytmjncdhahdpplaa
open Go.ChangeShapes Go.WideShapes Go.ChangeAt Go.RowKit
set_option linter.unusedVariables false
set_option maxRecDepth 100000
theorem place_append (l m a b : List Int) (h : a.length = l.length) : place (l ++ m) (a ++ b) = place l a * prodL m + place m b := by
  induction l generalizing a with
  | nil =>
    cases a with
    | nil => simp [place]
    | cons x t => simp at h
  | cons d l ih =>
    cases a with
    | nil => simp at h
    | cons x t =>
      show x * prodL (l ++ m) + place (l ++ m) (t ++ b) = (x * prodL l + place l t) * prodL m + place m b
      rw [ih t (by simpa using h), prodL_append, Int.add_mul, Int.mul_assoc]
      omega
theorem set_parts (l : List Int) (k : Nat) (hk : k < l.length) (v : Int) : l.set k v = l.take k ++ v :: l.drop (k + 1) := by
  rw [List.set_eq_take_append_cons_drop, if_pos hk]
/-- Where the cell at a number stands along an axis, and where one stands that has another place along it in a shape of which that axis is another one. -/
theorem axis_place {s : List Int} {k L : Nat} (hk : k < s.length) (hpos : ∀ z ∈ s.set k (L : Int), 0 < z) {i : Nat} (hi : (i : Int) < prodL (s.set k (L : Int))) :
    ∃ x a b w : Nat, prodL (s.drop (k + 1)) = (w : Int) ∧ 0 < w ∧ a < L ∧ b < w ∧ i = (x * L + a) * w + b ∧ gI (digits (s.set k (L : Int)) (i : Int)) k = (a : Int) ∧
      (∀ D v : Nat, place (s.set k (D : Int)) ((digits (s.set k (L : Int)) (i : Int)).set k (v : Int)) = ((x * (D * w) + v * w + b : Nat) : Int)) ∧
      ∀ D v : Nat, v < D → inAxes (s.set k (D : Int)) ((digits (s.set k (L : Int)) (i : Int)).set k (v : Int)) := by
  obtain ⟨hin, hpl⟩ := digits_in hpos (show (0 : Int) ≤ (i : Int) by omega) hi
  obtain ⟨A, hA⟩ : ∃ A, digits (s.set k (L : Int)) (i : Int) = A := ⟨_, rfl⟩
  rw [hA] at hin hpl ⊢
  obtain ⟨hl, hax⟩ := (inAxes_gI _ _).1 hin
  rw [List.length_set] at hl hax
  have hkA : k < A.length := by omega
  have pT : ∀ z ∈ s.take k, 0 < z := fun z hz => hpos z (by rw [set_parts s k hk]; exact List.mem_append.2 (Or.inl hz))
  have pD : ∀ z ∈ s.drop (k + 1), 0 < z := fun z hz => hpos z (by rw [set_parts s k hk]; exact List.mem_append.2 (Or.inr (List.mem_cons.2 (Or.inr hz))))
  have gA : ∀ j, j < s.length → ¬ j = k → 0 ≤ gI A j ∧ gI A j < gI s j := fun j hj hjk => by
    have := hax j hj
    rw [gI_set _ _ _ _ hk, if_neg hjk] at this
    exact this
  have gK := hax k hk
  rw [gI_set _ _ _ _ hk, if_pos rfl] at gK
  have inT : inAxes (s.take k) (A.take k) := (inAxes_gI _ _).2 ⟨by rw [List.length_take, List.length_take]; omega, fun j hj => by
    rw [List.length_take] at hj
    have h1 : gI (A.take k) j = gI A j := by unfold gI; rw [List.getElem?_take_of_lt (by omega)]
    have h2 : gI (s.take k) j = gI s j := by unfold gI; rw [List.getElem?_take_of_lt (by omega)]
    rw [h1, h2]; exact gA j (by omega) (by omega)⟩
  have inD : inAxes (s.drop (k + 1)) (A.drop (k + 1)) := (inAxes_gI _ _).2 ⟨by rw [List.length_drop, List.length_drop]; omega, fun j hj => by
    rw [List.length_drop] at hj
    have h1 : gI (A.drop (k + 1)) j = gI A (k + 1 + j) := by unfold gI; rw [List.getElem?_drop]
    have h2 : gI (s.drop (k + 1)) j = gI s (k + 1 + j) := by unfold gI; rw [List.getElem?_drop]
    rw [h1, h2]; exact gA _ (by omega) (by omega)⟩
  obtain ⟨-, x0, -, -⟩ := place_bound inT
  obtain ⟨-, b0, b1, -⟩ := place_bound inD
  have pw := prodL_pos pD
  obtain ⟨w, hw⟩ : ∃ w : Nat, prodL (s.drop (k + 1)) = (w : Int) := ⟨(prodL (s.drop (k + 1))).toNat, by omega⟩
  obtain ⟨x, hx⟩ : ∃ x : Nat, place (s.take k) (A.take k) = (x : Int) := ⟨(place (s.take k) (A.take k)).toNat, by omega⟩
  obtain ⟨b, hb⟩ : ∃ b : Nat, place (s.drop (k + 1)) (A.drop (k + 1)) = (b : Int) := ⟨(place (s.drop (k + 1)) (A.drop (k + 1))).toNat, by omega⟩
  obtain ⟨a, ha⟩ : ∃ a : Nat, gI A k = (a : Int) := ⟨(gI A k).toNat, by omega⟩
  have hgen : ∀ D v : Nat, place (s.set k (D : Int)) (A.set k (v : Int)) = ((x * (D * w) + v * w + b : Nat) : Int) := fun D v => by
    rw [set_parts s k hk, set_parts A k hkA, place_append _ _ _ _ (by rw [List.length_take, List.length_take]; omega)]
    have e1 : prodL ((D : Int) :: s.drop (k + 1)) = (D : Int) * prodL (s.drop (k + 1)) := rfl
    have e2 : place ((D : Int) :: s.drop (k + 1)) ((v : Int) :: A.drop (k + 1)) = (v : Int) * prodL (s.drop (k + 1)) + place (s.drop (k + 1)) (A.drop (k + 1)) := rfl
    rw [e1, e2, hw, hx, hb]
    push_cast
    omega
  refine ⟨x, a, b, w, hw, by omega, by omega, by omega, ?_, ha, hgen, fun D v hv => ?_⟩
  · have := hgen L a
    rw [← ha, set_gI _ _ hkA, hpl] at this
    have e : (x * L + a) * w + b = x * (L * w) + a * w + b := by rw [Nat.add_mul, Nat.mul_assoc]
    omega
  · refine (inAxes_gI _ _).2 ⟨by rw [List.length_set, List.length_set]; exact hl, fun j hj => ?_⟩
    rw [List.length_set] at hj
    rw [gI_set _ _ _ _ hkA, gI_set _ _ _ _ hk]
    by_cases h : j = k
    · rw [if_pos h, if_pos h]; omega
    · rw [if_neg h, if_neg h]; exact gA j hj h
end Go.Proofs.Ytmjncdhahdpplaa
namespace Go.Proofs.Ytmjncdhahdpplaa
open Go.ChangeShapes Go.WideShapes Go.ChangeAt Go.RowKit
set_option linter.unusedVariables false
set_option maxRecDepth 100000
def PlacesSoft (l : List Int) (n : Int) (w : World) (e : Ending) (w' : World) : Prop :=
  Below w.heap.size w w' ∧ (sizeE l = 0 → 0 ≤ n → n < sizeV l → ∃ b, e = .returned (.tuple #[.slice (some ⟨b, 0, none⟩) l.length l.length, .int .i64 0]) ∧ w.heap.size ≤ b ∧ b < w'.heap.size ∧ SoftC w' b (digits l n))
theorem places_badS {l : List Int} {n : Int} {w w' : World} (hs : ¬ sizeE l = 0) (hb : Below w.heap.size w w') : PlacesSoft l n w (.returned (.tuple #[.slice none 0 0, .int .i64 (sizeE l)])) w' :=
  ⟨hb, fun h => absurd h hs⟩
theorem places_outS {l : List Int} {n : Int} {w w' : World} (hs : sizeE l = 0) (ho : ¬ (0 ≤ n ∧ n < sizeV l)) (hb : Below w.heap.size w w') : PlacesSoft l n w (.returned (.tuple #[.slice none 0 0, .int .i64 8])) w' :=
  ⟨hb, fun _ h1 h2 => absurd ⟨h1, h2⟩ ho⟩
theorem places_inS {l : List Int} {n : Int} {w w' : World} (hs : sizeE l = 0) (h0 : 0 ≤ n) (h1 : n < sizeV l) (hb : Below w.heap.size w w') (f : Nat → Value) (hr : w'.rowIs w.heap.size 3 l.length f) (hf : ∀ i, i < l.length → f i = .int .i64 ((digits l n)[i]?.getD 0)) : PlacesSoft l n w (.returned (.tuple #[.slice (some ⟨w.heap.size, 0, none⟩) l.length l.length, .int .i64 0])) w' := by
  refine ⟨hb, fun _ _ _ => ⟨_, rfl, Nat.le_refl _, ?_, fun i hi => ?_⟩⟩
  · obtain ⟨c, hc, -⟩ := hr
    exact (Array.getElem?_eq_some_iff.1 hc).1
  · rw [digits_length] at hi
    have := hr.cell (i := i) hi
    rw [hf i hi] at this
    exact ⟨this, hr.frozen i⟩
set_option maxHeartbeats 1000000 in
theorem rplaces_soft {lo : Nat} (l : List Int) (n : Int) (a : Option Addr) (cap : Nat) (w : World) (R : Row lo w a l) :
    Calls Try.prog 68 #[.slice a l.length cap, .int .i64 n] w fun e w' => PlacesSoft l n w e w' := by
  have C := rsize_any l a cap w R
  have hrow := @row_at _ _ _ _ R
  have hl := R.1
  clear R
  by_cases hs : sizeE l = 0
  · by_cases ho : 0 ≤ n ∧ n < sizeV l
    · obtain ⟨h0, h1⟩ := ho
      obtain ⟨s1, s2, s3, s4⟩ := sizeV_in hs h0 h1
      have FIN := fun (w' : World) (hb : Below w.heap.size w w') f hr hf => places_inS hs h0 h1 hb f hr hf
      rw [hs] at C
      have DG : Hid (∀ i, i < l.length → (digits l n)[i]?.getD 0 = n % prodL (l.drop i) / prodL (l.drop (i + 1))) := fun i hi => digit_ref l s2 n h0 (by omega) i hi
      have DD : Hid (∀ i, i < l.length → 0 < l[i]?.getD 0 ∧ l[i]?.getD 0 ≤ 16384 ∧ 0 < prodL (l.drop (i + 1)) ∧ prodL (l.drop i) = l[i]?.getD 0 * prodL (l.drop (i + 1)) ∧ prodL (l.drop i) ≤ 16384 ∧ 0 ≤ n % prodL (l.drop i) ∧ n % prodL (l.drop i) ≤ 16384 ∧ n % prodL (l.drop i) % prodL (l.drop (i + 1)) = n % prodL (l.drop (i + 1))) := by
        intro i hi
        have p1 := s2 _ (getD_mem hi)
        have p2 := prod_of_mem s2 (getD_mem hi)
        have p3 := prodL_pos (l := l.drop (i + 1)) fun z hz => s2 z (List.mem_of_mem_drop hz)
        have p4 := prodL_pos (l := l.drop i) fun z hz => s2 z (List.mem_of_mem_drop hz)
        have p5 : prodL (l.drop i) ≤ prodL l := by
          have e : prodL l = prodL (l.take i) * prodL (l.drop i) := by rw [← prodL_append, List.take_append_drop]
          have p6 := prodL_pos (l := l.take i) fun z hz => s2 z (List.mem_of_mem_take hz)
          have := Int.mul_le_mul (a := 1) (b := prodL (l.drop i)) (c := prodL (l.take i)) (d := prodL (l.drop i)) (by omega) (by omega) (by omega) (by omega)
          omega
        have p7 := Int.emod_nonneg n (show prodL (l.drop i) ≠ 0 by omega)
        have p8 := Int.emod_lt_of_pos n (show 0 < prodL (l.drop i) by omega)
        refine ⟨p1, by omega, by omega, prodL_drop l i hi, by omega, p7, by omega, ?_⟩
        exact Int.emod_emod_of_dvd n ⟨l[i]?.getD 0, by rw [prodL_drop l i hi, Int.mul_comm]⟩
      have H0 : Hid (n = n % prodL (l.drop 0) ∧ sizeV l = prodL (l.drop 0)) := ⟨by rw [List.drop_zero, Int.emod_eq_of_lt h0 (by omega)], s3⟩
      have mk := run_make_row' (P := Try.prog) 22 3 (.int .i64 0) 8 Try.underlying22 int3 rfl .i64 .i64 l.length (by omega) (by omega)
      have rm := World.rowIs_made w (.int .i64 0) l.length 3
      have bm : Below w.heap.size w (w.alloc (.cells (madeCells #[.int .i64 0] l.length) 3)) := (Below.refl _ _).alloc (Nat.le_refl _) _
      have FIN' : Hid (∀ (w' : World) (hb : Below w.heap.size w w') f (hr : w'.rowIs w.heap.size 3 l.length f) (hf : ∀ i, i < l.length → f i = .int .i64 ((digits l n)[i]?.getD 0)), PlacesSoft l n w (.returned (.tuple #[.slice (some ⟨w.heap.size, 0, none⟩) l.length l.length, .int .i64 0])) w') := FIN
      clear FIN
      have BM : Hid _ := bm
      have RM : Hid ((w.alloc (.cells (madeCells #[.int .i64 0] l.length) 3)).rowIs w.heap.size 3 l.length (fun _ => .int .i64 0)) := rm
      clear bm rm s2 hs s3
      generalize sizeV l = S at C h1 H0
      go_enter Try.func68, Try.ntmps68
      go_wp2_with (go_at_call 67; refine C.mono ?_; rintro e w' ⟨rfl, hw⟩; rw [hw])
      clear C mk
      go_loopw [1, 9, 10] (fun nn st i wr => ∃ k : Nat, k ≤ l.length ∧ i = .int .i64 (k : Int) ∧ nn = .int .i64 (n % prodL (l.drop k)) ∧ st = .int .i64 (prodL (l.drop k)) ∧ Below w.heap.size w wr ∧ wr.rowIs w.heap.size 3 l.length (fun i => if i < k then .int .i64 ((digits l n)[i]?.getD 0) else .int .i64 0)) (fun _ _ i _ => l.length - (intOf i).toNat)
      case atStart =>
        refine ⟨0, Nat.zero_le _, by go_num, by rw [← H0.out.1], by rw [H0.out.2], BM.out, World.rowIs.congr RM.out ?_⟩
        intro i hi
        simp
      case round =>
        obtain ⟨k, hk, rfl, rfl, rfl, hnx, hr⟩ := hrel
        by_cases hlt : k < l.length
        · obtain ⟨b, off, ha, hb, hck⟩ := hrow hlt
          subst ha
          have hc1 : wr.cell? ⟨b, off + k, none⟩ = some (.int .i64 (l[k]?.getD 0)) := (hnx.cell (p := ⟨b, off + k, none⟩) hb).trans hck
          have hz := hr.cell hlt
          rw [if_neg (by omega)] at hz
          have hfz := hr.frozen k
          obtain ⟨d1, d2, d3, d4, d5, d6, d7, d8⟩ := DD.out k hlt
          have dg := DG.out k hlt
          obtain ⟨s, es⟩ : ∃ s, l[k]?.getD 0 = s := ⟨_, rfl⟩
          rw [es] at hc1 d1 d2 d4
          obtain ⟨q, eq⟩ : ∃ q, n % prodL (l.drop k) = q := ⟨_, rfl⟩
          rw [eq] at d6 d7 d8 dg ⊢
          obtain ⟨P, eP⟩ : ∃ P, prodL (l.drop k) = P := ⟨_, rfl⟩
          rw [eP] at d4 d5 ⊢
          have D8 : Hid (q % prodL (l.drop (k + 1)) = n % prodL (l.drop (k + 1))) := d8
          obtain ⟨p, ep⟩ : ∃ p, prodL (l.drop (k + 1)) = p := ⟨_, rfl⟩
          have EP : Hid (prodL (l.drop (k + 1)) = p) := ep
          rw [ep] at d3 d4 dg
          have u1 : P / s = p := by rw [d4]; exact Int.mul_ediv_cancel_left _ (by omega)
          have u2 : 1 ≤ s := by omega
          have u3 : p ≤ P := by
            have := Int.mul_le_mul (a := 1) (b := p) (c := s) (d := p) (by omega) (by omega) (by omega) (by omega)
            omega
          have hne : (s == 0) = false := beq_eq_false_iff_ne.2 (by omega)
          have hne2 : (p == 0) = false := beq_eq_false_iff_ne.2 (by omega)
          have t0 : P.tdiv s = p := by rw [Int.tdiv_eq_ediv_of_nonneg (by omega)]; exact u1
          have t1 : q.tmod p = q % p := Int.tmod_eq_emod_of_nonneg d6
          have t2 : q.tdiv p = q / p := Int.tdiv_eq_ediv_of_nonneg d6
          have t3 : 0 ≤ q / p := Int.ediv_nonneg d6 (by omega)
          have t4 : q / p ≤ q := Int.ediv_le_self _ d6
          have t5 : 0 ≤ q % p := Int.emod_nonneg _ (by omega)
          have t6 : q % p < p := Int.emod_lt_of_pos _ d3
          have hset := hr.set k (.int .i64 (q / p))
          have HS : Hid ((wr.setCell ⟨w.heap.size, k, none⟩ (.int .i64 (q / p))).rowIs w.heap.size 3 l.length (fun i => if i < k + 1 then .int .i64 ((digits l n)[i]?.getD 0) else .int .i64 0)) := by
            refine hset.congr ?_
            intro i hi
            by_cases e : i = k
            · subst e; rw [if_pos rfl, if_pos (Nat.lt_succ_self _), dg]
            · rw [if_neg e]
              by_cases e2 : i < k
              · rw [if_pos e2, if_pos (by omega)]
              · rw [if_neg e2, if_neg (by omega)]
          have HB : Hid (Below w.heap.size w (wr.setCell ⟨w.heap.size, k, none⟩ (.int .i64 (q / p)))) := hnx.setCell (p := ⟨w.heap.size, k, none⟩) (Nat.le_refl _) _
          clear hset hr dg es eq hrow hck DG DD FIN' eP d4 d8 ep u1
          go_wp2
          go_roundw
          case rel => exact ⟨k + 1, by omega, by go_num, by rw [← D8.out, EP.out], by rw [EP.out], HB.out, HS.out⟩
          case measure => simp [intOf]; omega
        · have hje : k = l.length := by omega
          subst hje
          have F := FIN'.out wr hnx _ hr (fun i hi => by rw [if_pos hi])
          have F' : Hid _ := F
          clear F hr FIN' DG DD
          go_wp2
          go_ret2
          exact F'.out
    · have F : Hid (PlacesSoft l n w (.returned (.tuple #[.slice none 0 0, .int .i64 8])) w) := places_outS hs ho (Below.refl _ _)
      rw [hs] at C
      generalize sizeV l = S at C ho
      by_cases h0 : n < 0
      · have hd : decide (n < 0) = true := decide_eq_true h0
        clear hs ho
        go_enter Try.func68, Try.ntmps68
        go_wp2_with (go_at_call 67; refine C.mono ?_; rintro e w' ⟨rfl, hw⟩; rw [hw])
        go_ret2
        exact F.out
      · have hd : decide (n < 0) = false := decide_eq_false h0
        have h1 : S ≤ n := by omega
        clear hs ho
        go_enter Try.func68, Try.ntmps68
        go_wp2_with (go_at_call 67; refine C.mono ?_; rintro e w' ⟨rfl, hw⟩; rw [hw])
        go_ret2
        exact F.out
  · have F : Hid (PlacesSoft l n w (.returned (.tuple #[.slice none 0 0, .int .i64 (sizeE l)])) w) := places_badS hs (Below.refl _ _)
    generalize sizeE l = E at C hs F
    go_enter Try.func68, Try.ntmps68
    go_wp2_with (go_at_call 67; refine C.mono ?_; rintro e w' ⟨rfl, hw⟩; rw [hw])
    go_ret2
    exact F.out
end Go.Proofs.Ytmjncdhahdpplaa
namespace Go.Proofs.Ytmjncdhahdpplaa
open Go.ChangeShapes Go.WideShapes Go.ChangeAt Go.RowKit
set_option linter.unusedVariables false
set_option maxRecDepth 100000
def axL (last : Bool) (y : Ar) : Nat := if last then y.shape.length - 1 else 0
theorem axL_lt (last : Bool) {y : Ar} (h : 0 < y.shape.length) : axL last y < y.shape.length := by unfold axL; split <;> omega
end Go.Proofs.Ytmjncdhahdpplaa
namespace Go.Proofs.Ytmjncdhahdpplaa
open Go.ChangeShapes Go.WideShapes Go.ChangeAt Go.RowKit
set_option linter.unusedVariables false
set_option maxRecDepth 100000
def rotY (n : Int) (y : Ar) (k : Nat) : Ar := if y.shape.length = 0 then y else alongA y k (rotL n (gI y.shape k).toNat)
/-- Where the cell at a number of a rotated array comes from, by places. -/
theorem rot_place {y : Ar} (hy : chkA 8 y = 0) {k D : Nat} (hk : k < y.shape.length) (hD : gI y.shape k = (D : Int)) (n : Int) {t : Nat} (ht : t < y.cells.length) :
    ∃ a : Nat, a < D ∧ gI (digits y.shape (t : Int)) k = (a : Int) ∧ plcV y.shape ((digits y.shape (t : Int)).set k (((a : Int) + n) % (D : Int))) = ((rq D (sizeV (y.shape.drop (k + 1))).toNat n t : Nat) : Int) ∧ rq D (sizeV (y.shape.drop (k + 1))).toNat n t < y.cells.length := by
  obtain ⟨hpos, hprod⟩ := (chk_axes hy).2.1 (by omega)
  obtain ⟨hq, hDp, hw⟩ := rq_lt hy hk hD n t ht
  have hset : y.shape.set k (D : Int) = y.shape := by rw [← hD]; exact set_gI _ _ hk
  obtain ⟨x, a, b, w, hw', hw0, ha, hb, hi, hg, hpl, hin⟩ := axis_place (s := y.shape) (k := k) (L := D) hk (by rw [hset]; exact hpos) (i := t) (by rw [hset, hprod]; omega)
  rw [hset] at hg hpl hin
  have hwv : sizeV (y.shape.drop (k + 1)) = (w : Int) := by
    obtain ⟨l8, c16⟩ := chk_len hy
    have hm : prodL (y.shape.drop (k + 1)) ≤ 16384 := by
      have e := prodL_set y.shape k hk (gI y.shape k)
      rw [set_gI _ _ hk, hprod, hw'] at e
      have p1 := prodL_pos (l := y.shape.take k) fun z hz => hpos z (List.mem_of_mem_take hz)
      have a1 : (1 : Int) ≤ prodL (y.shape.take k) * gI y.shape k := by
        have := Int.mul_le_mul (a := 1) (b := 1) (c := prodL (y.shape.take k)) (d := gI y.shape k) (by omega) (by rw [hD]; omega) (by omega) (by omega)
        omega
      have a2 := Int.mul_le_mul_of_nonneg_right a1 (show (0 : Int) ≤ (w : Int) by omega)
      rw [Int.one_mul, Int.mul_assoc, ← e] at a2
      rw [hw']; omega
    have := fine_mk (l := y.shape.drop (k + 1)) (by rw [List.length_drop]; omega) (fun z hz => by have := hpos z (List.mem_of_mem_drop hz); omega) (Or.inr hm)
    rw [this.2, hw']
  rw [hwv, Int.toNat_natCast] at hq ⊢
  have hv0 : 0 ≤ ((a : Int) + n) % (D : Int) := Int.emod_nonneg _ (by omega)
  have hv1 : ((a : Int) + n) % (D : Int) < D := Int.emod_lt_of_pos _ (by omega)
  obtain ⟨v, hv⟩ : ∃ v : Nat, ((a : Int) + n) % (D : Int) = (v : Int) := ⟨(((a : Int) + n) % (D : Int)).toNat, by omega⟩
  refine ⟨a, ha, hg, ?_, hq⟩
  rw [hv]
  have hin' := hin D v (by omega)
  have hpl' := hpl D v
  rw [hset] at hin' hpl'
  rw [(plc_of ((chkA_iff 8 y).1 hy).1 hin').1, hpl', hi, rq_at D w n x a b ha hb, hv, Int.toNat_natCast]
  congr 1
  rw [Nat.add_mul, Nat.mul_assoc]
set_option maxHeartbeats 4000000 in
theorem rrot_any {m lo : Nat} {y : Ar} {vb : Value} {w0 w : World} (n : Int) (last : Bool) (hy : ArIn (m + 1) lo w0 y vb) (hb0 : Below w0.heap.size w0 w) (hcy : chkA 8 y = 0) (hI : I64 n) :
    Calls Try.prog 53 #[.int .i64 n, vb, .bool last] w fun e w' => GivesZ (m + 1) w0 (rotY n y (axL last y)) w e w' := by
  obtain ⟨a1, c1, a2, c2, rfl, R, hc⟩ := hy.form
  obtain ⟨i0, hi0, hz00, hz01, hz02⟩ := info33'
  obtain ⟨l8, c16⟩ := chk_len hcy
  obtain ⟨ab, cb, hcf⟩ := cells_fn hc
  have I := in2_new w (.slice a1 y.shape.length c1) (.slice a2 y.cells.length c2)
  obtain ⟨W2, e2⟩ : ∃ W2, (w.alloc (.cells #[.slice a1 y.shape.length c1, .slice a2 y.cells.length c2] 25)).alloc (.cells #[.slice none 0 0, .slice none 0 0] 25) = W2 := ⟨_, rfl⟩
  rw [e2] at I
  have z2 : W2.heap.size = w.heap.size + 2 := by rw [← e2]; simp
  have q0 := I.q0
  have q1 := I.q1
  have HI := hide I
  have HB0 := hide hb0
  have HY := hide hy
  have HR := hide R
  have HCK := hide hcy
  have HCF := hide hcf
  have HAT := hide (atom_one hcy)
  have HEQ : Hid (rotY n y (axL last y) = if y.shape.length = 0 then y else alongA y (axL last y) (rotL n (gI y.shape (axL last y)).toNat)) := rfl
  obtain ⟨SA, hSA⟩ : ∃ SA, y.shape.length = SA := ⟨_, rfl⟩
  obtain ⟨CA, hCA⟩ : ∃ CA, y.cells.length = CA := ⟨_, rfl⟩
  have HSC := hide (And.intro hSA hCA)
  simp only [hSA, hCA] at e2 q0 q1 HI HY HCF HEQ HAT l8 c16 ⊢
  clear R hc I hy hSA hCA hb0 hcy hcf
  obtain ⟨W3, e3⟩ : ∃ W3, W2.alloc (.cells #[.slice a1 SA c1, .slice none 0 0] 25) = W3 := ⟨_, rfl⟩
  have z3 : W3.heap.size = w.heap.size + 3 := by rw [← e3]; simp [z2]
  have B3 : Below W2.heap.size W2 W3 := by rw [← e3]; exact one_alloc _ _
  have o0 : W3.cell? ⟨w.heap.size + 2, 0, none⟩ = some (.slice a1 SA c1) := by rw [← e3, ← z2]; exact cell_new0 W2 _ 25 0 _ rfl
  have o1 : W3.cell? ⟨w.heap.size + 2, 1, none⟩ = some (.slice none 0 0) := by rw [← e3, ← z2]; exact cell_new0 W2 _ 25 1 _ rfl
  have of1 : W3.frozen? ⟨w.heap.size + 2, 1, none⟩ = false := by rw [← e3, ← z2]; exact frozen_new W2 _ 25 1
  have I3 := HI.out.next B3
  have HI3 := hide I3
  have HZ3 := hide z3
  have HE3 := hide e3
  have HZ2 := hide z2
  by_cases hS0 : SA = 0
  · have HE5 : Hid (rotY n y (axL last y) = y) := by unfold Hid; rw [HEQ.out, if_pos hS0]
    have hC1 : (0 : Int) < (CA : Int) := by have := (HAT.out hS0).2; omega
    clear HAT
    have hSb : ((SA : Int) == 0) = true := by simp [hS0]
    have hSn : ¬ (0 : Int) < (SA : Int) := by omega
    have q03 := I3.q0
    have q13 := I3.q1
    have HP3 := hide (And.intro q03 q13)
    have p0 := I3.p0
    have p1 := I3.p1
    have f0 := I3.f0
    have f1 := I3.f1
    have HT := hide (I3.put (.slice a1 SA c1) (.slice a2 CA c2))
    have HF : Hid (∀ u v, GivesZ (m + 1) w0 (rotY n y (axL last y)) w (.returned (.agg #[.slice a1 SA c1, .slice a2 CA c2])) ((W3.setCell ⟨w.heap.size + 1, 0, none⟩ u).setCell ⟨w.heap.size + 1, 1, none⟩ v)) := fun u v => ⟨⟨_, rfl, fun W hW _ => by rw [HE5.out]; exact HY.out.mono (Nat.zero_le _) hW⟩, I3.fin u v⟩
    clear I3 B3 HI HE5 HEQ HY HCF hS0 z2 z3 HZ3 HZ2 HI3 e3 q03 q13
    go_enter Try.func53, Try.ntmps53
    go_upto_if 19 with fail
    clear e2 q0 q1
    rw [HE3.out]
    clear HE3
    have q03 := HP3.out.1
    have q13 := HP3.out.2
    cases last
    all_goals
      go_wp2
      go_loopg [9] 0 (fun g i wr => i = .int .i64 0 ∧ wr = W3)
      case atStart => exact ⟨rfl, rfl⟩
      case round =>
        obtain ⟨rfl, hw⟩ := hrel
        have hw' := hw.symm
        subst hw'
        go_wp2
        exact bodyPost_ret (v := .agg #[.slice a1 SA c1, .slice a2 CA c2]) (by simp [results, Try.results53, go_sem, HT.out.1, HT.out.2]) rfl (HF.out _ _)
  obtain ⟨k, hkk⟩ : ∃ k, axL last y = k := ⟨_, rfl⟩
  have hk : k < SA := by rw [← hkk, ← HSC.out.1]; exact axL_lt last (by rw [HSC.out.1]; omega)
  have HK : Hid ((last = true → k = SA - 1) ∧ (last = false → k = 0)) := by
    rw [← hkk]; unfold axL; rw [HSC.out.1]
    exact ⟨fun h => by rw [h]; rfl, fun h => by rw [h]; rfl⟩
  rw [hkk] at HEQ ⊢
  have hky : k < y.shape.length := by rw [HSC.out.1]; exact hk
  have hDb := (chk_axes HCK.out).1 (gI y.shape k) (getD_mem hky)
  obtain ⟨D, hD⟩ : ∃ D : Nat, gI y.shape k = (D : Int) := ⟨(gI y.shape k).toNat, by omega⟩
  have hD16 : D ≤ 16384 := by omega
  obtain ⟨QF, hQF⟩ : ∃ Q : Nat → Nat, Q = rq D (sizeV (y.shape.drop (k + 1))).toNat n := ⟨_, rfl⟩
  have HQ : Hid (∀ t, t < CA → ∃ a : Nat, a < D ∧ gI (digits y.shape (t : Int)) k = (a : Int) ∧ plcV y.shape ((digits y.shape (t : Int)).set k (((a : Int) + n) % (D : Int))) = (QF t : Int) ∧ QF t < CA) := fun t ht => by
    rw [hQF]
    have := rot_place HCK.out hky hD n (t := t) (by rw [HSC.out.2]; exact ht)
    rw [HSC.out.2] at this
    exact this
  have HE5 : Hid (rotY n y k = .mk y.shape (mkCs CA fun p => cAt y.cells (QF p))) := by
    unfold Hid; rw [HEQ.out, if_neg hS0, hD, Int.toNat_natCast, rot_form HCK.out hky hD n, HSC.out.2, hQF]
  obtain ⟨T, hT⟩ : ∃ T : Nat → Value × Value × Value, T = fun p => cellT y.cells ab cb (QF p) := ⟨_, rfl⟩
  have HTT := hide hT
  have HG3 := hide (GrowC.new (T := T) o0 o1 of1)
  have hO5 : Hid (w.heap.size + 2 < W3.heap.size) := by unfold Hid; omega
  have HSZ : Hid (sizeE y.shape = 0 ∧ sizeV y.shape = (CA : Int)) := by
    have := (chkA_iff 8 y).1 HCK.out
    rw [HSC.out.2] at this
    exact ⟨this.1, this.2.1⟩
  obtain ⟨yb, yo, rfl, hyb, hyc⟩ := row_at HR.out (j := k) hky
  have eg : y.shape[k]?.getD 0 = (D : Int) := hD
  rw [eg] at hyc
  have HYC := hide (And.intro hyb hyc)
  have hSb : ((SA : Int) == 0) = false := by simp; omega
  have hSn : (0 : Int) < (SA : Int) := by omega
  clear I3 B3 HI hQF hkk hT z2 z3 hDb eg hyb hyc o0 o1 of1 hD HEQ hky e3
  go_enter Try.func53, Try.ntmps53
  go_upto_if 19 with fail
  rw [HE3.out, HZ2.out]
  clear e2 HE3
  have q03 := HI3.out.q0
  have q13 := HI3.out.q1
  go_cut [8] from 19 to 23 (fun s wx => s = .int .i64 (k : Int) ∧ wx = W3)
  case first =>
    cases last with
    | false =>
      have h0 := HK.out.2 rfl
      go_wp2
      go_meet
      exact ⟨by rw [h0]; rfl, rfl⟩
    | true =>
      have h0 := HK.out.1 rfl
      go_wp2
      go_meet
      exact ⟨congrArg (Value.int .i64) (by omega), rfl⟩
  case rest =>
  obtain ⟨rfl, hwc⟩ := hcut
  have hwc' := hwc.symm
  subst hwc'
  clear hwc q03 q13 q0 q1 HK
  go_wp2
  go_loopg [9] CA (fun g i wr => ∃ (t : Nat) (v : Value), g + t = CA ∧ i = .int .i64 (t : Int) ∧ GrowC W3 (w.heap.size + 2) (.slice (some ⟨yb, yo, none⟩) SA c1) T t v wr)
  case atStart => exact ⟨0, _, rfl, rfl, HG3.out⟩
  case round =>
    clear HG3
    obtain ⟨t, v, hg, rfl, hgr⟩ := hrel
    obtain ⟨wo, hwo⟩ : ∃ wo, wo = wr := ⟨_, rfl⟩
    subst hwo
    have HGR := hide hgr
    have hz := HZ3.out
    have BW := hgr.below (B := w.heap.size + 2) (Nat.le_refl _) (by omega)
    have I6 : In2 w (.slice (some ⟨yb, yo, none⟩) SA c1) (.slice a2 CA c2) wo := HI3.out.belowS BW (Nat.le_refl _)
    by_cases hlt : t < CA
    · obtain ⟨a, ha, hga, hpl, hp2⟩ := HQ.out t hlt
      have hNB6 := HB0.out.trans (I6.bel.mono HB0.out.size)
      have C := rplaces_soft y.shape (t : Int) (some ⟨yb, yo, none⟩) c1 wo (HR.out.next hNB6)
      rw [HSC.out.1] at C
      have HI6 := hide I6
      have q0 := I6.q0
      have q1 := I6.q1
      have hS1 : 0 < SA := by omega
      clear I6 hgr BW hNB6
      go_wp2_with fail
      refine C.mono ?_
      clear C
      rintro e w6 ⟨hb6, h4⟩
      obtain ⟨b, rfl, hbw, hbl, SC⟩ := h4 HSZ.out.1 (by omega) (by rw [HSZ.out.2]; omega)
      clear h4
      rw [HSC.out.1]
      have I7 := HI6.out.next hb6
      have hNB7 := HB0.out.trans (I7.bel.mono HB0.out.size)
      obtain ⟨DG, hDG⟩ : ∃ DG, digits y.shape (t : Int) = DG := ⟨_, rfl⟩
      have hDl : DG.length = SA := by rw [← hDG, digits_length, HSC.out.1]
      rw [hDG] at SC hga hpl
      obtain ⟨d0, d1⟩ := SC k (by rw [hDl]; exact hk)
      rw [hga] at d0
      have u0 := (hNB7.cell (p := ⟨yb, yo + k, none⟩) HYC.out.1).trans HYC.out.2
      obtain ⟨h1, h2, h3, h4, h5⟩ := rot_rem n D a ha
      obtain ⟨rm, hrm⟩ : ∃ rm, n.tmod (D : Int) = rm := ⟨_, rfl⟩
      obtain ⟨rv, hrv⟩ : ∃ rv, ((a : Int) + n) % (D : Int) = rv := ⟨_, rfl⟩
      rw [hrm] at h1 h2 h3
      rw [hrv] at h3 h4 h5 hpl
      have hD0 : ¬ D = 0 := by omega
      have hD1 : ¬ (D : Int) = 0 := by omega
      have HV : Hid ((wrap64 (wrap64 ((a : Int) + n.tmod (D : Int)) + (D : Int))).tmod (D : Int) = rv) := by
        unfold Hid
        rw [hrm, IntWalk.wrap64_in ((a : Int) + rm) ⟨by omega, by omega⟩, IntWalk.wrap64_in _ ⟨by omega, by omega⟩]
        exact h3
      have HSCk := hide (SC.set k (by rw [hDl]; exact hk) rv)
      have hlD : (DG.set k rv).length = SA := by rw [List.length_set, hDl]
      have HB6 := hide hb6
      have HPL := hide (And.intro hpl hlD)
      have HBB := hide (And.intro hbw hbl)
      have s0 := I7.q0
      have HP2 := hide hp2
      have hT0 : Hid (T t = cellT y.cells ab cb (QF t)) := by unfold Hid; rw [HTT.out]
      have HIr := hide hI
      clear I7 hNB7 SC hDG hDl hga hlD hb6 h1 h2 h3 h4 h5 hrm hrv hbl hbw hpl hp2 hI
      go_wp2
      go_quiet (fail)
      rw [HV.out]
      obtain ⟨w8, e8⟩ : ∃ w8, (w6.drewN nq).setCell ⟨b, k, none⟩ (.int .i64 rv) = w8 := ⟨_, rfl⟩
      have SC3 : SoftC w8 b (DG.set k rv) := by rw [← e8]; exact HSCk.out
      have z8 : w8.heap.size = w6.heap.size := by rw [← e8]; simp
      have hb8 : Below wo.heap.size wo w8 := by rw [← e8]; exact (belowN HB6.out nq).setCell (p := ⟨b, k, none⟩) HBB.out.1 _
      have I8 := HI6.out.next hb8
      have C9 := rplace_any y.shape (DG.set k rv) (some ⟨yb, yo, none⟩) (some ⟨b, 0, none⟩) c1 SA w8 (HR.out.next (HB0.out.trans (I8.bel.mono HB0.out.size))) (SC3.row (lo := 0) (by rw [z8]; exact HBB.out.2) (Nat.zero_le _) (by rw [HPL.out.2]; omega))
      rw [HPL.out.1, HPL.out.2, HSC.out.1] at C9
      generalize plcE y.shape (DG.set k rv) = PE at C9
      have HI8 := hide I8
      have HB8 := hide hb8
      have r0' := I8.q0
      clear I8 SC3 z8 hb8 HSCk HV HPL HB6 HBB s0 u0
      go_wp2_with fail
      clear e8 d0 d1 r0'
      refine C9.mono ?_
      clear C9
      rintro e w9 ⟨rfl, hb9⟩
      have HB9 := hide (HB8.out.trans (hb9.mono HB8.out.size))
      have HG9 := hide (HB9.out.mono HGR.out.io.size)
      have I9 := HI8.out.next hb9
      have hNB9 := HB0.out.trans (I9.bel.mono HB0.out.size)
      have hs9 := I9.size
      have r1 := I9.q1
      have hp2 := HP2.out
      have HTi0 : T t = cellT y.cells ab cb (QF t) := hT0.out
      have hI := HIr.out
      generalize QF t = p at *
      clear I9 hb9 HI8 HB8 HP2 hT0 HI6 HTT HQ HSC HCK
      obtain ⟨bb, off, rfl, -, hbb, hcells⟩ := HCF.out (by omega)
      obtain ⟨g0, g1, g2, -⟩ := hcells p hp2
      have u0 := (hNB9.cell (p := ⟨bb, off + p * 3, none⟩) hbb).trans g0
      have u1 := (hNB9.cell (p := ⟨bb, off + p * 3 + 1, none⟩) hbb).trans g1
      have u2 := (hNB9.cell (p := ⟨bb, off + p * 3 + 2, none⟩) hbb).trans g2
      have HTi : Hid (T t = (.int .i64 (cAt y.cells p).1, .int .i64 (cAt y.cells p).2.1, .slice (ab p) (cAt y.cells p).2.2.length (cb p))) := HTi0
      have hp5 : (0 : Int) ≤ (p : Int) := by omega
      have hp6 : (p : Int) < (CA : Int) := by omega
      clear g0 g1 g2 hcells HTi0
      generalize (cAt y.cells p).1 = kk at *
      generalize (cAt y.cells p).2.1 = NN at *
      generalize (cAt y.cells p).2.2.length = nb at *
      generalize ab p = abp at *
      generalize cb p = cbp at *
      have hO5v := hO5.out
      have d1' := (HG9.out.cell (p := ⟨(w.heap.size + 2), 1, none⟩) hO5v).trans HGR.out.c1
      have d2' := (HG9.out.frozen (p := ⟨(w.heap.size + 2), 1, none⟩) hO5v).trans HGR.out.f1
      have BA := one_alloc w9 (.cells #[.int .i64 kk, .int .i64 NN, .slice abp nb cbp] 36)
      have hs59 : W3.heap.size ≤ w9.heap.size := Nat.le_trans HGR.out.io.size HG9.out.size
      have x0 : (w9.alloc (.cells #[.int .i64 kk, .int .i64 NN, .slice abp nb cbp] 36)).cell? ⟨(w.heap.size + 2), 1, none⟩ = some v := (BA.cell (p := ⟨(w.heap.size + 2), 1, none⟩) (by show (w.heap.size + 2) < _; omega)).trans d1'
      have HSTEP : Hid (rowT T (t + 1) = rowT T t ++ [.int .i64 kk, .int .i64 NN, .slice abp nb cbp]) := by unfold Hid; rw [rowT_step, HTi.out]
      have OW9 : w9.ownsRow W3.heap.size 36 3 v t (rowT T t) := owns_below HGR.out.own HB9.out
      have HOWN : Hid ((w9.alloc (.cells #[.int .i64 kk, .int .i64 NN, .slice abp nb cbp] 36)).drew.ownsRow W3.heap.size 36 3 v t (rowT T t)) := OW9.alloc (.cells #[.int .i64 kk, .int .i64 NN, .slice abp nb cbp] 36)
      have HNEWS : Hid (∀ i u, [Value.int .i64 kk, .int .i64 NN, .slice abp nb cbp][i]? = some u → (w9.alloc (.cells #[.int .i64 kk, .int .i64 NN, .slice abp nb cbp] 36)).drew.cell? ((⟨w9.heap.size, 0, none⟩ : Addr).add i) = some u) := by
        intro i u hu
        rw [add_off, Nat.zero_add]
        exact cell_new0 w9 _ 36 i u (by simpa using hu)
      have HONE : Hid (∀ u ∈ [Value.int .i64 kk, .int .i64 NN, .slice abp nb cbp], u.oneCell' = true) := by
        intro u hu
        simp at hu
        rcases hu with rfl | rfl | rfl <;> rfl
      have HMAX : Hid (t + 1 ≤ maxLen ∧ (t + 1) * 40 ≤ 140737488355328 ∧ W3.heap.size ≤ (w9.alloc (.cells #[.int .i64 kk, .int .i64 NN, .slice abp nb cbp] 36)).drew.heap.size) := by
        refine ⟨by unfold maxLen; omega, by omega, ?_⟩
        have : (w9.alloc (.cells #[.int .i64 kk, .int .i64 NN, .slice abp nb cbp] 36)).drew.heap.size = w9.heap.size + 1 := by simp
        omega
      have HAB : Hid (Below W3.heap.size wo (w9.alloc (.cells #[.int .i64 kk, .int .i64 NN, .slice abp nb cbp] 36)).drew) := (HG9.out.trans ((Below.refl _ _).alloc (by show _ ≤ w9.heap.size; omega) _)).drew
      clear BA HTi hbb HG9 OW9 hs59 HB9 hNB9 hO5v
      go_wp2
      go_region_law (refine step_append_own rfl (.tmp 73) (.tmp 79) 23 rfl W3.heap.size 36 i0 (.agg #[.int .i64 0, .int .i64 0, .slice none 0 0]) 3 40 Try.underlying23 hi0 hz00 hz01 hz02 rfl (by decide) v t (rowT T t) (by first | rfl | go_simp) HOWN.out ⟨w9.heap.size, 0, none⟩ 1 1 [.int .i64 kk, .int .i64 NN, .slice abp nb cbp] (by first | rfl | go_simp) rfl HNEWS.out HONE.out HMAX.out.1 HMAX.out.2.1 HMAX.out.2.2 ?_; intro v' w1 hown1 hb1; obtain ⟨g, cp, rfl, -⟩ := owns_form hown1 (Nat.succ_pos t); have dd1 := (HAB.out.trans hb1).cell (p := ⟨(w.heap.size + 2), 1, none⟩) hO5.out |>.trans HGR.out.c1; have dd3 := (HAB.out.trans hb1).frozen (p := ⟨(w.heap.size + 2), 1, none⟩) hO5.out |>.trans HGR.out.f1)
      all_goals
        have hown2 : w1.ownsRow W3.heap.size 36 3 (.slice (some ⟨g, 0, none⟩) (t + 1) cp) (t + 1) (rowT T (t + 1)) := by rw [HSTEP.out]; exact hown1
        have HNX := hide (HGR.out.step hO5.out (HAB.out.trans hb1) hown2)
        clear hown1 hown2 hb1 dd1 dd3 HOWN HNEWS HONE HMAX HAB HSTEP x0 u0 u1 u2
        go_wp2
        go_roundg (CA - (t + 1))
        case rel => exact ⟨t + 1, _, by omega, by go_num, HNX.out⟩
        case measure => omega
    · have hte : t = CA := by omega
      subst hte
      obtain ⟨g2, cp2, rfl, hcells⟩ := owns_cellsT T hgr.own
      have d0' := hgr.c0
      have d1' := hgr.c1
      have q0 := I6.q0
      have q1 := I6.q1
      have p0 := I6.p0
      have p1 := I6.p1
      have f0 := I6.f0
      have f1 := I6.f1
      have HT := hide (I6.put (.slice (some ⟨yb, yo, none⟩) SA c1) (.slice g2 t cp2))
      have HFIN : Hid (∀ u v, GivesZ (m + 1) w0 (rotY n y k) w (.returned (.agg #[.slice (some ⟨yb, yo, none⟩) SA c1, .slice g2 t cp2])) ((wo.setCell ⟨w.heap.size + 1, 0, none⟩ u).setCell ⟨w.heap.size + 1, 1, none⟩ v)) := by
        intro u v
        rw [HE5.out]
        refine ⟨⟨_, rfl, fun W hW hK => ?_⟩, I6.fin u v⟩
        have K2 : Keeps W3.heap.size wo ((wo.setCell ⟨w.heap.size + 1, 0, none⟩ u).setCell ⟨w.heap.size + 1, 1, none⟩ v) := ((Keeps.refl _ _).setCell (p := ⟨w.heap.size + 1, 0, none⟩) (by show w.heap.size + 1 < _; omega) u).setCell (p := ⟨w.heap.size + 1, 1, none⟩) (by show w.heap.size + 1 < _; omega) v
        have K3 := K2.trans (hK.mono (show w.heap.size ≤ W3.heap.size by omega))
        have hcl : (Ar.mk y.shape (mkCs t fun p => cAt y.cells (QF p))).cells.length = t := mkCs_len _ _
        refine arIn_mk (x := .mk y.shape (mkCs t fun p => cAt y.cells (QF p))) ((HR.out.next hW).low (Nat.zero_le _)) (by rw [hcl]; omega) ?_ HSC.out.1 hcl
        rcases hcells with h0 | ⟨g, rfl, hg1, hg2, hcc⟩
        · exact Or.inl (List.eq_nil_of_length_eq_zero (by rw [hcl]; exact h0))
        · refine Or.inr ⟨g, 0, rfl, Nat.zero_le _, Nat.lt_of_lt_of_le hg2 K3.1, fun i hi => ?_⟩
          rw [hcl] at hi
          obtain ⟨-, -, -, -, hp2⟩ := HQ.out i hi
          obtain ⟨b, off, -, -, hb, hcl2⟩ := HCF.out (by omega)
          obtain ⟨-, -, -, hce⟩ := hcl2 (QF i) hp2
          obtain ⟨e0, e1, e2⟩ := hcc i hi
          rw [Nat.zero_add]
          have ap : ∀ (o : Nat) (q : Value), wo.cell? ⟨g, o, none⟩ = some q → W.cell? ⟨g, o, none⟩ = some q := fun o q h => (K3.cell (p := ⟨g, o, none⟩) (by show W3.heap.size ≤ g; omega) hg2).trans h
          refine ⟨_, _, _, ap _ _ e0, ap _ _ e1, ap _ _ e2, ?_⟩
          have ec : cAt (Ar.mk y.shape (mkCs t fun p => cAt y.cells (QF p))).cells i = cAt y.cells (QF i) := mkCs_at _ _ _ hi
          rw [ec, HTT.out]
          exact hce.mono (Nat.zero_le _) hW fun x v h => h.mono (Nat.zero_le _) hW
      clear I6 hgr HGR HCF hcells BW HQ HSC HCK HTT HE5
      go_wp2
      exact bodyPost_ret (v := .agg #[.slice (some ⟨yb, yo, none⟩) SA c1, .slice g2 t cp2]) (by simp [results, Try.results53, go_sem, HT.out.1, HT.out.2]) rfl (HFIN.out _ _)
end Go.Proofs.Ytmjncdhahdpplaa
namespace Go.Proofs.Ytmjncdhahdpplaa
open Go.ChangeShapes Go.WideShapes Go.ChangeAt Go.RowKit
set_option linter.unusedVariables false
set_option maxRecDepth 100000
/-- The cells of an array in memory, by their values. -/
def CellsFn (n lo : Nat) (w : World) (cs : List Ce) (a : Option Addr) (ab : Nat → Option Addr) (cb : Nat → Nat) : Prop :=
  0 < cs.length → ∃ b off, a = some ⟨b, off, none⟩ ∧ lo ≤ b ∧ b < w.heap.size ∧ ∀ i, i < cs.length → w.cell? ⟨b, off + i * 3, none⟩ = some (.int .i64 (cAt cs i).1) ∧ w.cell? ⟨b, off + i * 3 + 1, none⟩ = some (.int .i64 (cAt cs i).2.1) ∧ w.cell? ⟨b, off + i * 3 + 2, none⟩ = some (.slice (ab i) (cAt cs i).2.2.length (cb i)) ∧
    CeIn (ArIn n lo w) lo w (cAt cs i) (.int .i64 (cAt cs i).1) (.int .i64 (cAt cs i).2.1) (.slice (ab i) (cAt cs i).2.2.length (cb i))
theorem part_lies {n lo : Nat} {w : World} {cs : List Ce} {a : Option Addr} {ab : Nat → Option Addr} {cb : Nat → Nat} {c : Nat} (h : CellsFn n lo w cs a ab cb) (fr m : Nat) (hm : fr + m ≤ cs.length) (hcap : cs.length ≤ c) : Lies w (subA a fr c 3) (rowT (fun q => cellT cs ab cb (fr + q)) m) := by
  rcases Nat.eq_zero_or_pos m with rfl | h0
  · exact ⟨Or.inl rfl, fun u hu => absurd hu (by simp [rowT])⟩
  · obtain ⟨b, off, rfl, -, hb, hc⟩ := h (by omega)
    exact lies_part hb (fun i hi => ⟨(hc i hi).1, (hc i hi).2.1, (hc i hi).2.2.1⟩) fr m c hm hcap h0
theorem lies_own {w : World} {base m c : Nat} {a : Option Addr} {T : Nat → Value × Value × Value} (h : w.ownsRow base 36 3 (.slice a m c) m (rowT T m)) (h1 : ∀ q, (T q).1.oneCell' = true ∧ (T q).2.1.oneCell' = true ∧ (T q).2.2.oneCell' = true) : Lies w a (rowT T m) := by
  obtain ⟨a', c', he, hc⟩ := owns_cellsT T h
  simp only [Value.slice.injEq, true_and] at he
  obtain ⟨rfl, rfl⟩ := he
  refine ⟨?_, rowT_one _ _ fun i _ => h1 i⟩
  rcases hc with rfl | ⟨g, rfl, -, hg, hcc⟩
  · exact Or.inl rfl
  · refine Or.inr ⟨⟨g, 0, none⟩, rfl, hg, fun j u hj => ?_⟩
    have hjl : j < m * 3 := by
      rcases Nat.lt_or_ge j (m * 3) with h | h
      · exact h
      · rw [List.getElem?_eq_none (by rw [rowT_len]; exact h)] at hj; cases hj
    obtain ⟨t0, t1, t2⟩ := rowT_at T m (j / 3) (by omega)
    obtain ⟨g0, g1, g2⟩ := hcc (j / 3) (by omega)
    rw [add_off, Nat.zero_add]
    have hm : j = j / 3 * 3 ∨ j = j / 3 * 3 + 1 ∨ j = j / 3 * 3 + 2 := by omega
    rcases hm with e | e | e
    · rw [← e] at t0 g0; rw [t0] at hj; cases hj; exact g0
    · rw [← e] at t1 g1; rw [t1] at hj; cases hj; exact g1
    · rw [← e] at t2 g2; rw [t2] at hj; cases hj; exact g2
theorem rowT_add (T : Nat → Value × Value × Value) (j m : Nat) : rowT T (j + m) = rowT T j ++ rowT (fun q => T (j + q)) m := by
  induction m with
  | zero => simp [rowT]
  | succ m ih => rw [← Nat.add_assoc, rowT_step, ih, rowT_step, List.append_assoc]
/-- Some cells are added. -/
theorem GrowC.stepN {W : World} {o : Nat} {sv : Value} {T : Nat → Value × Value × Value} {j m : Nat} {v v' : Value} {wr w1 : World} (ho : o < W.heap.size) (h : GrowC W o sv T j v wr) (hb : Below W.heap.size wr w1) (hown : w1.ownsRow W.heap.size 36 3 v' (j + m) (rowT T (j + m))) : GrowC W o sv T (j + m) v' (w1.setCell ⟨o, 1, none⟩ v') := by
  have e0 : w1.cell? ⟨o, 0, none⟩ = some sv := (hb.cell (p := ⟨o, 0, none⟩) ho).trans h.c0
  have e1 : w1.cell? ⟨o, 1, none⟩ = some v := (hb.cell (p := ⟨o, 1, none⟩) ho).trans h.c1
  refine ⟨(h.io.trans (hb.mono (Nat.zero_le _))).setCell (p := ⟨o, 1, none⟩) (Nat.zero_le _) _, fun b hb1 hne => ?_, ?_, ?_, ?_, ownsRow_setCell_below hown (a := ⟨o, 1, none⟩) ho _⟩
  · rw [Below.heap_setCell _ _ _ _ (by show b ≠ o; exact hne), hb.block b hb1]
    exact h.keep b hb1 hne
  · rw [World.cell?_setCell_other _ _ _ _ (by simp)]; exact e0
  · exact World.cell?_setCell_same' _ _ _ (by rw [e1]; rfl)
  · exact frozen_set _ _ _ _ ((hb.frozen (p := ⟨o, 1, none⟩) ho).trans h.f1)
/-- An array whose shape lies in one world and whose cells in another. -/
def ArW (n lo : Nat) (ws w0 : World) (x : Ar) (v : Value) : Prop := ∃ a1 c1 a2 c2, v = .agg #[.slice a1 x.shape.length c1, .slice a2 x.cells.length c2] ∧ Row lo ws a1 x.shape ∧ CellsIn n lo w0 x.cells a2
theorem ArIn.two {n lo : Nat} {w0 : World} {x : Ar} {v : Value} (h : ArIn (n + 1) lo w0 x v) : ArW n lo w0 w0 x v := h.form
/-- What Item gives: cells whose values are known. -/
def ItemC (T : Nat → Value × Value × Value) (m : Nat) (w : World) (e : Ending) (w' : World) : Prop := (∃ sa sn sc a3 c3, e = .returned (.agg #[.slice sa sn sc, .slice a3 m c3]) ∧ Lies w' a3 (rowT T m)) ∧ Below w.heap.size w w'
set_option maxHeartbeats 4000000 in
theorem ritem_two {ws : World} {n lo i m : Nat} {x : Ar} {a1 a2 : Option Addr} {c1 c2 : Nat} {ab : Nat → Option Addr} {cb : Nat → Nat} {w0 w : World} (hx : ArW n lo ws w0 x (.agg #[.slice a1 x.shape.length c1, .slice a2 x.cells.length c2])) (hbs : Below ws.heap.size ws w) (hcf : CellsFn n lo w0 x.cells a2 ab cb) (hb0 : Below w0.heap.size w0 w) (hs : 0 < x.shape.length) (h8 : x.shape.length ≤ 8) (hE : sizeV x.shape.tail = (m : Int)) (hm : i * m + m ≤ x.cells.length) (hc16 : x.cells.length ≤ 16384) (hi16 : i ≤ 16384) (hc1 : x.shape.length ≤ c1) (hc2 : x.cells.length ≤ c2) :
    Calls Try.prog 71 #[.agg #[.slice a1 x.shape.length c1, .slice a2 x.cells.length c2], .int .i64 (i : Int)] w fun e w' => ItemC (fun q => cellT x.cells ab cb (i * m + q)) m w e w' := by
  obtain ⟨a1', c1', a2', c2', he, R, hc⟩ := id hx
  simp only [Value.agg.injEq, Array.mk.injEq, List.cons.injEq, Value.slice.injEq, and_true, true_and] at he
  obtain ⟨⟨rfl, rfl⟩, rfl, rfl⟩ := he
  obtain ⟨i3, hi3, hz30, hz31, hz32⟩ := infoI3
  obtain ⟨i0, hi0, hz00, hz01, hz02⟩ := info33'
  have I := in2_new w (.slice a1 x.shape.length c1) (.slice a2 x.cells.length c2)
  obtain ⟨W2, e2⟩ : ∃ W2, (w.alloc (.cells #[.slice a1 x.shape.length c1, .slice a2 x.cells.length c2] 25)).alloc (.cells #[.slice none 0 0, .slice none 0 0] 25) = W2 := ⟨_, rfl⟩
  rw [e2] at I
  have z2 : W2.heap.size = w.heap.size + 2 := by rw [← e2]; simp
  have q0 := I.q0
  have q1 := I.q1
  have HI := hide I
  have HP1 := hide fun W => part_l (P := Try.prog) Try.underlying22 size3 a1 x.shape.length c1 1 1 rfl hs W
  have hp1 := HP1.out
  have ht : ((x.shape.drop 1).take (x.shape.length - 1)) = x.shape.tail := by rw [List.take_of_length_le (by rw [List.length_drop]; omega), List.drop_one]
  have RT : Row lo ws (subA a1 1 c1 1) x.shape.tail := by have := R.part 1 c1 (x.shape.length - 1) (by omega) hc1; rw [ht] at this; exact this
  have tl : x.shape.tail.length = x.shape.length - 1 := by rw [List.length_tail]
  have C := rsize_any x.shape.tail (subA a1 1 c1 1) (c1 - 1) W2 (RT.next (hbs.trans (I.bel.mono hbs.size)))
  rw [tl, hE] at C
  generalize sizeE x.shape.tail = EE at *
  have CP := hc.part (i * m) c2 m hm hc2
  have hcl : ((x.cells.drop (i * m)).take m).length = m := by rw [List.length_take, List.length_drop]; omega
  obtain ⟨pp, hpp⟩ : ∃ pp : Nat, i * m = pp := ⟨_, rfl⟩
  obtain ⟨qq, hqq⟩ : ∃ qq : Nat, pp + m = qq := ⟨_, rfl⟩
  have hwp : IntKind.i64.wrap ((i : Int) * (m : Int)) = (pp : Int) := by rw [← Int.natCast_mul, hpp]; exact IntWalk.i64_in _ ⟨by omega, by omega⟩
  have hwq : IntKind.i64.wrap ((pp : Int) + (m : Int)) = (qq : Int) := by rw [← Int.natCast_add, hqq]; exact IntWalk.i64_in _ ⟨by omega, by omega⟩
  have hp2 : ∀ W, (Instr.sliceAt 23 (.slice a2 x.cells.length c2) (some (.int .i64 (pp : Int))) (some (.int .i64 (qq : Int))) none).run Try.prog W = .ok (.slice (subA a2 (i * m) c2 3) m (c2 - i * m)) W := fun W => by
    have := part_lh (P := Try.prog) Try.underlying23 size36 a2 x.cells.length c2 (i * m) (i * m + m) (pp : Int) (qq : Int) (by rw [hpp]) (by rw [hpp, hqq]) (by omega) (by omega) W
    rw [this, show i * m + m - i * m = m by omega]
  have hlie : Lies w0 (subA a2 (i * m) c2 3) (rowT (fun q => cellT x.cells ab cb (i * m + q)) m) := part_lies hcf (i * m) m hm hc2
  have hm16 : m ≤ 16384 := by omega
  have HL := hide hlie
  have HR := hide (And.intro RT CP)
  have HB0 := hide hb0
  have HBS := hide hbs
  have HK := hide (And.intro hs (And.intro h8 (And.intro tl hcl)))
  have hSA := hide (rfl : x.shape.length = x.shape.length)
  obtain ⟨SA, hSA⟩ : ∃ SA, x.shape.length = SA := ⟨_, rfl⟩
  obtain ⟨CA, hCA⟩ : ∃ CA, x.cells.length = CA := ⟨_, rfl⟩
  simp only [hSA, hCA] at C e2 q0 q1 HI hp1 hp2 HK hc1 hc2 hm hc16 h8 hs ⊢
  obtain ⟨at', hat⟩ : ∃ at', subA a1 1 c1 1 = at' := ⟨_, rfl⟩
  obtain ⟨ac, hac⟩ : ∃ ac, subA a2 (i * m) c2 3 = ac := ⟨_, rfl⟩
  obtain ⟨cc, hcc⟩ : ∃ cc, c2 - i * m = cc := ⟨_, rfl⟩
  obtain ⟨ct, hct⟩ : ∃ ct, c1 - 1 = ct := ⟨_, rfl⟩
  obtain ⟨SM, hSM⟩ : ∃ SM, SA - 1 = SM := ⟨_, rfl⟩
  rw [hat] at C HR
  simp only [hat, hct, hSM] at hp1 C HK
  simp only [hac, hcc] at hp2 HR HL
  have hSM8 : SM ≤ 8 := by omega
  clear RT CP hlie ht tl hcl hE hx hcf R hc I HP1 hSA hCA hat hac hcc hct hSM hpp hqq
  go_enter Try.func71, Try.ntmps71
  go_wp2_with fail
  clear e2
  refine C.mono ?_
  rintro e w1 ⟨rfl, rfl⟩
  clear C q0 q1
  obtain ⟨W3, e3⟩ : ∃ W3, w1.alloc (.cells #[.slice none 0 0, .slice none 0 0] 25) = W3 := ⟨_, rfl⟩
  have z3 : W3.heap.size = w.heap.size + 3 := by rw [← e3]; simp [z2]
  have B3 : Below w1.heap.size w1 W3 := by rw [← e3]; exact one_alloc _ _
  have o0 : W3.cell? ⟨w.heap.size + 2, 0, none⟩ = some (.slice none 0 0) := by rw [← e3, ← z2]; exact cell_new0 w1 _ 25 0 _ rfl
  have o1 : W3.cell? ⟨w.heap.size + 2, 1, none⟩ = some (.slice none 0 0) := by rw [← e3, ← z2]; exact cell_new0 w1 _ 25 1 _ rfl
  have of0 : W3.frozen? ⟨w.heap.size + 2, 0, none⟩ = false := by rw [← e3, ← z2]; exact frozen_new w1 _ 25 0
  have of1 : W3.frozen? ⟨w.heap.size + 2, 1, none⟩ = false := by rw [← e3, ← z2]; exact frozen_new w1 _ 25 1
  have I3 := HI.out.next B3
  have q0 := I3.q0
  have HLS : Hid (Lies W3.drew at' (x.shape.tail.map (Value.int .i64))) := (Lies.row_next HR.out.1 (HBS.out.trans (I3.bel.mono HBS.out.size))).drew
  have hsl : (x.shape.tail.map (Value.int .i64)).length = SM * 1 := by rw [List.length_map, HK.out.2.2.1]; omega
  have HI3 := hide I3
  have HZ3 := hide z3
  have HMX : Hid (0 + SM ≤ maxLen ∧ (0 + SM) * 8 ≤ 140737488355328) := ⟨by unfold maxLen; omega, by omega⟩
  have hO : Hid (w.heap.size + 2 < W3.heap.size) := by unfold Hid; omega
  have HE3 := hide e3
  clear I3 B3 HI z3 e3
  go_wp2
  rw [HE3.out]
  clear HE3
  go_cut [5] from 16 to 22 (fun s5 wx => s5 = .int .i64 (m : Int) ∧ ∃ al cl w4, SM ≤ cl ∧ w4.ownsRow W3.heap.size 3 1 (.slice al SM cl) SM (x.shape.tail.map (Value.int .i64)) ∧ Below W3.heap.size W3 w4 ∧ wx = w4.setCell ⟨w.heap.size + 2, 0, none⟩ (.slice al SM cl))
  case first =>
    go_region_law (refine step_append_any rfl (.tmp 17) (.tmp 20) 22 rfl W3.heap.size 3 i3 (.int .i64 0) 1 8 Try.underlying22 hi3 hz30 hz31 hz32 rfl (by decide) (.slice none 0 0) 0 [] rfl (World.ownsRow_nil _ _ _ _) at' SM ct (x.shape.tail.map (Value.int .i64)) rfl hsl HLS.out HMX.out.1 HMX.out.2 (Nat.le_refl _) ?_; intro v' w4 hown4 hb4; obtain ⟨al, cl, rfl, hcap4⟩ := owns_cap hown4; have d0 := hb4.cell (p := ⟨w.heap.size + 2, 0, none⟩) hO.out |>.trans o0; have df0 := hb4.frozen (p := ⟨w.heap.size + 2, 0, none⟩) hO.out |>.trans of0)
    all_goals
      simp only [List.nil_append, Nat.zero_add] at hown4 hcap4 ⊢
      have HF4 := hide (And.intro hcap4 (And.intro hown4 hb4))
      clear hown4 hcap4 hb4
      go_wp2
      go_meet
    all_goals
      case rel => exact ⟨rfl, _, _, _, HF4.out.1, HF4.out.2.1, (Below.refl _ _).drew.trans HF4.out.2.2, rfl⟩
  case rest =>
    obtain ⟨rfl, al, cl, w4, hcl, hown4, hb4, rfl⟩ := hcut
    clear q0 HLS hsl HMX
    obtain ⟨al', cl', hal, RL⟩ := owns_rowE x.shape.tail (by rw [HK.out.2.2.1]; omega) (by rw [HK.out.2.2.1]; exact hown4)
    simp only [Value.slice.injEq] at hal
    obtain ⟨rfl, -, rfl⟩ := hal
    have hz3 := HZ3.out
    have d0 : w4.cell? ⟨w.heap.size + 2, 0, none⟩ = some (.slice none 0 0) := (hb4.cell (p := ⟨w.heap.size + 2, 0, none⟩) (by show w.heap.size + 2 < _; omega)).trans o0
    obtain ⟨w5, e5⟩ : ∃ w5, w4.setCell ⟨w.heap.size + 2, 0, none⟩ (.slice al SM cl) = w5 := ⟨_, rfl⟩
    have z5 : w5.heap.size = w4.heap.size := by rw [← e5]; simp
    have z45 := hb4.size
    have I5 : In2 w (.slice a1 SA c1) (.slice a2 CA c2) w5 := by rw [← e5]; exact (HI3.out.belowS hb4 (by omega)).set (by omega) _
    have t0 : w5.cell? ⟨w.heap.size + 2, 0, none⟩ = some (.slice al SM cl) := by rw [← e5]; exact World.cell?_setCell_same' _ _ _ (by rw [d0]; rfl)
    have t1 : w5.cell? ⟨w.heap.size + 2, 1, none⟩ = some (.slice none 0 0) := by rw [← e5, World.cell?_setCell_other _ _ _ _ (by simp)]; exact (hb4.cell (p := ⟨w.heap.size + 2, 1, none⟩) (by show w.heap.size + 2 < _; omega)).trans o1
    have tf1 : w5.frozen? ⟨w.heap.size + 2, 1, none⟩ = false := by rw [← e5]; exact frozen_set _ _ _ _ ((hb4.frozen (p := ⟨w.heap.size + 2, 1, none⟩) (by show w.heap.size + 2 < _; omega)).trans of1)
    have K5 : Keeps W3.heap.size w4 w5 := by rw [← e5]; exact (Keeps.refl _ _).setCell (p := ⟨w.heap.size + 2, 0, none⟩) (by show w.heap.size + 2 < _; omega) _
    have HRL := hide (RL.keeps K5)
    have HI5 := hide I5
    have q1 := I5.q1
    have HLC : Hid (Lies w5.drew ac (rowT (fun q => cellT x.cells ab cb (i * m + q)) m)) := (HL.out.next (HB0.out.trans (I5.bel.mono HB0.out.size))).drew
    have hsl : (rowT (fun q => cellT x.cells ab cb (i * m + q)) m).length = m * 3 := rowT_len _ _
    have HMX : Hid (0 + m ≤ maxLen ∧ (0 + m) * 40 ≤ 140737488355328) := ⟨by unfold maxLen; omega, by omega⟩
    have hO5 : Hid (w.heap.size + 2 < w5.heap.size) := by unfold Hid; omega
    have HS := hide (And.intro z5 (And.intro z45 hz3))
    clear I5 K5 RL d0 hown4 hb4 HI3 z5 z45 hz3 o0 o1 of0 of1 hO hp1 HZ3
    rw [e5]
    clear e5
    go_wp2
    go_cut [5] from 23 to 37 (fun s5 wx => s5 = .int .i64 (m : Int) ∧ ∃ a3 c3 w6, m ≤ c3 ∧ w6.ownsRow w5.heap.size 36 3 (.slice a3 m c3) m (rowT (fun q => cellT x.cells ab cb (i * m + q)) m) ∧ Below w5.heap.size w5 w6 ∧ wx = w6.setCell ⟨w.heap.size + 2, 1, none⟩ (.slice a3 m c3))
    case first =>
      go_region_law (refine step_append_any rfl (.tmp 24) (.tmp 35) 23 rfl w5.heap.size 36 i0 (.agg #[.int .i64 0, .int .i64 0, .slice none 0 0]) 3 40 Try.underlying23 hi0 hz00 hz01 hz02 rfl (by decide) (.slice none 0 0) 0 [] rfl (World.ownsRow_nil _ _ _ _) ac m cc (rowT (fun q => cellT x.cells ab cb (i * m + q)) m) rfl hsl HLC.out HMX.out.1 HMX.out.2 (Nat.le_refl _) ?_; intro v' w6 hown6 hb6; obtain ⟨a3, c3, rfl, hcap6⟩ := owns_cap hown6; have d0 := hb6.cell (p := ⟨w.heap.size + 2, 1, none⟩) hO5.out |>.trans t1; have df0 := hb6.frozen (p := ⟨w.heap.size + 2, 1, none⟩) hO5.out |>.trans tf1)
      all_goals
        simp only [List.nil_append, Nat.zero_add] at hown6 hcap6 ⊢
        have HF4 := hide (And.intro hcap6 (And.intro hown6 hb6))
        clear hown6 hcap6 hb6
        go_wp2
        go_meet
      all_goals
        case rel => exact ⟨rfl, _, _, _, HF4.out.1, HF4.out.2.1, (Below.refl _ _).drew.trans HF4.out.2.2, rfl⟩
    case rest =>
      obtain ⟨rfl, a3, c3, w6, hcl3, hown6, hb6, rfl⟩ := hcut
      clear q1 HLC hsl HMX hwp hwq hp2
      have hz := HS.out
      have hb6s := hb6.size
      have hcl := HK.out.2.2.2
      have d1 : w6.cell? ⟨w.heap.size + 2, 1, none⟩ = some (.slice none 0 0) := (hb6.cell (p := ⟨w.heap.size + 2, 1, none⟩) (by show w.heap.size + 2 < _; omega)).trans t1
      have d0 : w6.cell? ⟨w.heap.size + 2, 0, none⟩ = some (.slice al SM cl) := (hb6.cell (p := ⟨w.heap.size + 2, 0, none⟩) (by show w.heap.size + 2 < _; omega)).trans t0
      obtain ⟨w7, e7⟩ : ∃ w7, w6.setCell ⟨w.heap.size + 2, 1, none⟩ (.slice a3 m c3) = w7 := ⟨_, rfl⟩
      have I7 : In2 w (.slice a1 SA c1) (.slice a2 CA c2) w7 := by rw [← e7]; exact (HI5.out.belowS hb6 (by omega)).set (by omega) _
      have s0 : w7.cell? ⟨w.heap.size + 2, 0, none⟩ = some (.slice al SM cl) := by rw [← e7, World.cell?_setCell_other _ _ _ _ (by simp)]; exact d0
      have s1 : w7.cell? ⟨w.heap.size + 2, 1, none⟩ = some (.slice a3 m c3) := by rw [← e7]; exact World.cell?_setCell_same' _ _ _ (by rw [d1]; rfl)
      have K7 : Keeps (w.heap.size + 3) w6 w7 := by rw [← e7]; exact (Keeps.refl _ _).setCell (p := ⟨w.heap.size + 2, 1, none⟩) (by show w.heap.size + 2 < _; omega) _
      have p0 := I7.p0
      have p1 := I7.p1
      have f0 := I7.f0
      have f1 := I7.f1
      have HT := hide (I7.put (.slice al SM cl) (.slice a3 m c3))
      have HFIN : Hid (∀ u v, ItemC (fun q => cellT x.cells ab cb (i * m + q)) m w (.returned (.agg #[.slice al SM cl, .slice a3 m c3])) ((w7.setCell ⟨w.heap.size + 1, 0, none⟩ u).setCell ⟨w.heap.size + 1, 1, none⟩ v)) := by
        intro u v
        have K8 : Keeps (w.heap.size + 3) w7 ((w7.setCell ⟨w.heap.size + 1, 0, none⟩ u).setCell ⟨w.heap.size + 1, 1, none⟩ v) := ((Keeps.refl _ _).setCell (p := ⟨w.heap.size + 1, 0, none⟩) (by show w.heap.size + 1 < _; omega) u).setCell (p := ⟨w.heap.size + 1, 1, none⟩) (by show w.heap.size + 1 < _; omega) v
        have hown8 := owns_keeps hown6 (K7.trans K8) (by omega)
        exact ⟨⟨_, _, _, _, _, rfl, lies_own hown8 fun q => ⟨rfl, rfl, rfl⟩⟩, I7.fin u v⟩
      clear I7 K7 hown6 hb6 d0 d1 hz HS HL HRL HR
      rw [e7]
      clear e7
      go_wp2
      exact bodyPost_ret (v := .agg #[.slice al SM cl, .slice a3 m c3]) (by simp [results, Try.results71, go_sem, HT.out.1, HT.out.2]) rfl (HFIN.out _ _)
end Go.Proofs.Ytmjncdhahdpplaa
namespace Go.Proofs.Ytmjncdhahdpplaa
open Go.ChangeShapes Go.WideShapes Go.ChangeAt Go.RowKit
set_option linter.unusedVariables false
set_option maxRecDepth 100000
theorem heap_top (V : World) (o : Obj) : (V.alloc o).heap[V.heap.size]? = some o := by rw [show (V.alloc o).heap = V.heap.push o from rfl]; exact Array.getElem?_push_size
theorem grown_refl (w : World) (r : Option Nat) : w.grownBy w r := ⟨rfl, rfl, rfl, Nat.le_refl _, fun _ _ _ => rfl⟩
theorem run_append_grown {P : Program} {w : World} (base : Nat) (t ty e : TypeId) (i : TypeInfo) (z : Value) (size bytes : Nat) (ht : P.underlying t = some (.slice e)) (hi : P.info? e = some i) (hz : i.zero = some z)
    (hsize : i.size = size) (hby : i.bytes = bytes) (hzs : z.cells.size = size) (hsz : 0 < size)
    (v : Value) (n : Nat) (xs : List Value) (hown : w.ownsRow base e size v n xs)
    (ad : Option Addr) (m c : Nat) (news : List Value) (hl : news.length = m * size) (hnews : Lies w ad news)
    (h63 : n + m ≤ maxLen) (hbytes : (n + m) * bytes ≤ 140737488355328) (hbase : base ≤ w.heap.size) :
    ∃ v' w', (Builtin.append_ #[t, t] ty #[v, .slice ad m c]).run P w = .ok v' w' ∧ w'.ownsRow base e size v' (n + m) (xs ++ news) ∧ w.grownBy w' v.ownBlock := by
  cases ad with
  | none =>
    have hn : news = [] := by
      rcases hnews.1 with h | ⟨p, hp, -⟩
      · exact h
      · cases hp
    subst hn
    have hm : m = 0 := by
      rcases Nat.eq_zero_or_pos m with h | h
      · exact h
      · have := Nat.mul_pos h hsz; simp at hl; omega
    subst hm
    exact ⟨v, w, run_append_none_any base t ty e i size ht hi v n c xs hown, by simpa using hown, grown_refl _ _⟩
  | some p =>
    have hc : ∀ j u, news[j]? = some u → w.cell? (p.add j) = some u := by
      rcases hnews.1 with h | ⟨q, hq, -, h⟩
      · subst h; intro j u hj; simp at hj
      · cases hq; exact h
    obtain ⟨v', w', hr, h2, h3, -⟩ := run_append_own (P := P) w base t ty e i z size bytes ht hi hz hsize hby hzs hsz v n xs hown p m c news hl hc hnews.2 h63 hbytes hbase
    exact ⟨v', w', hr, h2, h3⟩
theorem step_append_grown {P : Program} {w : World} {ops : Array Oper} {o : Oper} {a : Act} {K : Act → World → Prop} {Q : Exit → Act → World → Prop} {E : Prop} (hg : o.guard = none) (s x : Operand) (t : TypeId)
    (ho : o.op = .call { callee := .builtin .append, args := #[s, x], argTypes := #[t, t] })
    (base : Nat) (e : TypeId) (i : TypeInfo) (z : Value) (size bytes : Nat) (ht : P.underlying t = some (.slice e)) (hi : P.info? e = some i) (hz : i.zero = some z)
    (hsize : i.size = size) (hby : i.bytes = bytes) (hzs : z.cells.size = size) (hsz : 0 < size)
    (v : Value) (n : Nat) (xs : List Value) (hs : a.eval s = v) (hown : w.ownsRow base e size v n xs)
    (ad : Option Addr) (m c : Nat) (news : List Value) (hx : a.eval x = .slice ad m c) (hl : news.length = m * size) (hnews : Lies w ad news)
    (h63 : n + m ≤ maxLen) (hbytes : (n + m) * bytes ≤ 140737488355328) (hbase : base ≤ w.heap.size)
    (h : ∀ v' w', w'.ownsRow base e size v' (n + m) (xs ++ news) → w.grownBy w' v.ownBlock → K (a.put o.dst v') w') : if Region.wanted o (yielded ops a.tmps) = true then Oper.wp P o a w K Q else E := by
  have hw : Region.wanted o (yielded ops a.tmps) = true := by simp [Region.wanted, hg]
  rw [if_pos hw]
  obtain ⟨v', w', hr, h2, h3⟩ := run_append_grown base t o.type e i z size bytes ht hi hz hsize hby hzs hsz v n xs hown ad m c news hl hnews h63 hbytes hbase
  unfold Oper.wp execOp
  simp only [ho, resolve, invoke, builtin, Sem.run_bind, Sem.run_pure, Result.andThen_ok, List.map_toArray, List.map_cons, List.map_nil, hs, hx, hr]
  exact h v' w' h2 h3
theorem own_ne {w : World} {base n gb cl k : Nat} {xs : List Value} {cs : Array Value} {fl : Nat × Nat} (h : w.ownsRow base 3 1 (.slice (some ⟨gb, 0, none⟩) n cl) n xs) (hk : w.heap[k]? = some (.cells cs 25 fl)) : gb ≠ k := by
  rcases h.2 with ⟨h, -⟩ | ⟨g, cap, cur, hv, -, hg, -⟩
  · cases h
  · simp only [Value.slice.injEq, Option.some.injEq, Addr.mk.injEq, and_true, true_and] at hv
    rintro rfl
    rw [← hv.1, hk] at hg
    simp at hg
/-- An array, a cell, and the room for what is given back. -/
structure InF (w : World) (v0 v1 : Value) (fk fN : Int) (W : World) : Prop where
  base : In3 w v0 v1 (.int .i64 fk) (.int .i64 fN) W
  r2 : W.cell? ⟨w.heap.size + 1, 2, none⟩ = some (.slice none 0 0)
theorem InF.belowS {w W W' : World} {v0 v1 : Value} {fk fN : Int} {B : Nat} (h : InF w v0 v1 fk fN W) (hb : Below B W W') (hB : w.heap.size + 3 ≤ B) : InF w v0 v1 fk fN W' :=
  ⟨h.base.belowS hb hB, (hb.cell (p := ⟨w.heap.size + 1, 2, none⟩) (by show w.heap.size + 1 < _; omega)).trans h.r2⟩
theorem InF.next {w W W' : World} {v0 v1 : Value} {fk fN : Int} (h : InF w v0 v1 fk fN W) (hb : Below W.heap.size W W') : InF w v0 v1 fk fN W' := h.belowS hb h.base.size
theorem inF_new (w : World) (v0 v1 : Value) (fk fN : Int) : InF w v0 v1 fk fN (((w.alloc (.cells #[v0, v1] 25)).alloc (.cells #[.int .i64 fk, .int .i64 fN, .slice none 0 0] 36)).alloc (.cells #[.slice none 0 0, .slice none 0 0] 25)) := by
  have B2 := two_allocs w (.cells #[v0, v1] 25) (.cells #[.int .i64 fk, .int .i64 fN, .slice none 0 0] 36)
  have z2 := size_two w (.cells #[v0, v1] 25) (.cells #[.int .i64 fk, .int .i64 fN, .slice none 0 0] 36)
  have B3 := one_alloc ((w.alloc (.cells #[v0, v1] 25)).alloc (.cells #[.int .i64 fk, .int .i64 fN, .slice none 0 0] 36)) (.cells #[.slice none 0 0, .slice none 0 0] 25)
  have n0 := cell_new0 ((w.alloc (.cells #[v0, v1] 25)).alloc (.cells #[.int .i64 fk, .int .i64 fN, .slice none 0 0] 36)) #[.slice none 0 0, .slice none 0 0] 25 0 _ rfl
  have n1 := cell_new0 ((w.alloc (.cells #[v0, v1] 25)).alloc (.cells #[.int .i64 fk, .int .i64 fN, .slice none 0 0] 36)) #[.slice none 0 0, .slice none 0 0] 25 1 _ rfl
  have nf := fun i => frozen_new ((w.alloc (.cells #[v0, v1] 25)).alloc (.cells #[.int .i64 fk, .int .i64 fN, .slice none 0 0] 36)) #[.slice none 0 0, .slice none 0 0] 25 i
  rw [z2] at n0 n1 nf
  refine ⟨⟨B2.trans (B3.mono (by omega)), by simp, ?_, ?_, ?_, ?_, n0, n1, nf 0, nf 1⟩, ?_⟩
  · exact (B3.cell (p := ⟨w.heap.size, 0, none⟩) (by show w.heap.size < _; omega)).trans (cell_new1 w _ 25 (0, 0) _ 0 _ rfl)
  · exact (B3.cell (p := ⟨w.heap.size, 1, none⟩) (by show w.heap.size < _; omega)).trans (cell_new1 w _ 25 (0, 0) _ 1 _ rfl)
  · exact (B3.cell (p := ⟨w.heap.size + 1, 0, none⟩) (by show w.heap.size + 1 < _; omega)).trans (cell_new2 w _ 36 (0, 0) _ 0 _ rfl)
  · exact (B3.cell (p := ⟨w.heap.size + 1, 1, none⟩) (by show w.heap.size + 1 < _; omega)).trans (cell_new2 w _ 36 (0, 0) _ 1 _ rfl)
  · exact (B3.cell (p := ⟨w.heap.size + 1, 2, none⟩) (by show w.heap.size + 1 < _; omega)).trans (cell_new2 w _ 36 (0, 0) _ 2 _ rfl)
/-- Some items of an array, by their numbers; filling cells where there is none. -/
def itC (x : Ar) (m : Nat) (wh : List Int) (fk fN : Int) (p : Nat) : Ce := if 0 ≤ gI wh (p / m) then cAt x.cells ((gI wh (p / m)).toNat * m + p % m) else (fk, fN, [])
def itmsA (x : Ar) (m : Nat) (wh : List Int) (fk fN : Int) : Ar := .mk ((wh.length : Int) :: x.shape.tail) (mkCs (wh.length * m) (itC x m wh fk fN))
def itT (cs : List Ce) (ab : Nat → Option Addr) (cb : Nat → Nat) (m : Nat) (wh : List Int) (fk fN : Int) (p : Nat) : Value × Value × Value := if 0 ≤ gI wh (p / m) then cellT cs ab cb ((gI wh (p / m)).toNat * m + p % m) else (.int .i64 fk, .int .i64 fN, .slice none 0 0)
theorem div_at {t m q : Nat} (hq : q < m) : (t * m + q) / m = t ∧ (t * m + q) % m = q := by
  have hm : 0 < m := by omega
  refine ⟨?_, ?_⟩
  · rw [Nat.mul_comm, Nat.mul_add_div hm, Nat.div_eq_of_lt hq, Nat.add_zero]
  · rw [Nat.mul_comm, Nat.mul_add_mod, Nat.mod_eq_of_lt hq]
set_option maxHeartbeats 4000000 in
theorem ritems_two {ws : World} {n lo lo' m : Nat} {x : Ar} {va : Value} {wh : List Int} {aw : Option Addr} {cw : Nat} {w0 w : World} (fk fN : Int) (hx : ArW n lo ws w0 x va) (hbs : Below ws.heap.size ws w) (hb0 : Below w0.heap.size w0 w) (Rw : Row lo' w aw wh) (hs : 0 < x.shape.length) (h8 : x.shape.length ≤ 8) (hE : sizeV x.shape.tail = (m : Int)) (hc16 : x.cells.length ≤ 16384) (hcap : Caps va) (hL : wh.length ≤ 16384) (hLm : wh.length * m ≤ 16384) (hm16 : m ≤ 16384)
    (hj : ∀ t, t < wh.length → 0 ≤ gI wh t → (gI wh t).toNat * m + m ≤ x.cells.length ∧ (gI wh t).toNat ≤ 16384) :
    Calls Try.prog 86 #[va, .slice aw wh.length cw, .agg #[.int .i64 fk, .int .i64 fN, .slice none 0 0]] w fun e w' => GivesZ (n + 1) w0 (itmsA x m wh fk fN) w e w' := by
  obtain ⟨a1, c1, a2, c2, rfl, R, hc⟩ := id hx
  obtain ⟨hc1, hc2⟩ := caps_form hcap
  obtain ⟨i3, hi3, hz30, hz31, hz32⟩ := infoI3
  obtain ⟨i0, hi0, hz00, hz01, hz02⟩ := info33'
  obtain ⟨ab, cb, hcf⟩ := cells_fn hc
  have I := inF_new w (.slice a1 x.shape.length c1) (.slice a2 x.cells.length c2) fk fN
  obtain ⟨W3, e3⟩ : ∃ W3, ((w.alloc (.cells #[.slice a1 x.shape.length c1, .slice a2 x.cells.length c2] 25)).alloc (.cells #[.int .i64 fk, .int .i64 fN, .slice none 0 0] 36)).alloc (.cells #[.slice none 0 0, .slice none 0 0] 25) = W3 := ⟨_, rfl⟩
  rw [e3] at I
  have z3 : W3.heap.size = w.heap.size + 3 := by rw [← e3]; simp
  obtain ⟨B, hB⟩ : ∃ B, W3.heap.size = B := ⟨_, rfl⟩
  obtain ⟨L, hLL⟩ : ∃ L, wh.length = L := ⟨_, rfl⟩
  obtain ⟨W5, e5⟩ : ∃ W5, (W3.alloc (.cells #[.int .i64 (L : Int)] 3)).alloc (.cells #[.slice (some ⟨B, 0, none⟩) 1 1, .slice none 0 0] 25) = W5 := ⟨_, rfl⟩
  have z4 : (W3.alloc (.cells #[.int .i64 (L : Int)] 3)).heap.size = B + 1 := by simp [hB]
  have z5 : W5.heap.size = B + 2 := by rw [← e5]; simp [hB]
  have B5 : Below W3.heap.size W3 W5 := by rw [← e5]; exact (two_allocs W3 _ _)
  have I5 := I.next B5
  have o0 : W5.cell? ⟨B + 1, 0, none⟩ = some (.slice (some ⟨B, 0, none⟩) 1 1) := by rw [← e5, ← z4]; exact cell_new0 _ _ 25 0 _ rfl
  have o1 : W5.cell? ⟨B + 1, 1, none⟩ = some (.slice none 0 0) := by rw [← e5, ← z4]; exact cell_new0 _ _ 25 1 _ rfl
  have of0 : W5.frozen? ⟨B + 1, 0, none⟩ = false := by rw [← e5, ← z4]; exact frozen_new _ _ 25 0
  have of1 : W5.frozen? ⟨B + 1, 1, none⟩ = false := by rw [← e5, ← z4]; exact frozen_new _ _ 25 1
  have ob : W5.heap[B + 1]? = some (.cells #[.slice (some ⟨B, 0, none⟩) 1 1, .slice none 0 0] 25) := by rw [← e5, ← z4]; exact heap_top _ _
  have ow : W5.ownsRow B 3 1 (.slice (some ⟨B, 0, none⟩) 1 1) 1 [.int .i64 (L : Int)] := by
    refine ⟨rfl, Or.inr ⟨B, 1, #[.int .i64 (L : Int)], rfl, Nat.le_refl _, ?_, Nat.le_refl _, by unfold maxLen; omega, rfl, rfl⟩⟩
    rw [← e5, ← hB]
    exact ((one_alloc (W3.alloc (.cells #[.int .i64 (L : Int)] 3)) _).block W3.heap.size (by rw [z4]; omega)).trans (heap_top _ _)
  have HP1 := hide fun W => part_l (P := Try.prog) Try.underlying22 size3 a1 x.shape.length c1 1 1 rfl hs W
  have hp1 := HP1.out
  have ht : ((x.shape.drop 1).take (x.shape.length - 1)) = x.shape.tail := by rw [List.take_of_length_le (by rw [List.length_drop]; omega), List.drop_one]
  have RT : Row lo ws (subA a1 1 c1 1) x.shape.tail := by have := R.part 1 c1 (x.shape.length - 1) (by omega) hc1; rw [ht] at this; exact this
  have tl : x.shape.tail.length = x.shape.length - 1 := by rw [List.length_tail]
  have HR := hide RT
  have HX := hide hx
  have HCF : Hid (CellsFn n lo w0 x.cells a2 ab cb) := hcf
  have HB0 := hide hb0
  have HBS := hide hbs
  have HRW := hide Rw
  have HJ := hide hj
  have HK := hide (And.intro hs (And.intro h8 (And.intro hc16 (And.intro hc1 hc2))))
  have HE := hide hE
  have HLL := hide hLL
  have HI5 := hide I5
  have HZ := hide (And.intro z3 (And.intro hB z5))
  have HE5 := hide e5
  have HOW := hide (And.intro ow ob)
  obtain ⟨SA, hSA⟩ : ∃ SA, x.shape.length = SA := ⟨_, rfl⟩
  obtain ⟨CA, hCA⟩ : ∃ CA, x.cells.length = CA := ⟨_, rfl⟩
  have HSC := hide (And.intro hSA hCA)
  obtain ⟨SM, hSM⟩ : ∃ SM, SA - 1 = SM := ⟨_, rfl⟩
  have HTL : Hid (x.shape.tail.length = SM) := by unfold Hid; rw [tl, hSA, hSM]
  obtain ⟨at', hat⟩ : ∃ at', subA a1 1 c1 1 = at' := ⟨_, rfl⟩
  obtain ⟨ct, hct⟩ : ∃ ct, c1 - 1 = ct := ⟨_, rfl⟩
  simp only [hSA, hCA, hLL] at e3 HI5 hp1 hL hLm hc16 h8 hs ⊢
  rw [hat] at HR
  simp only [hat, hct, hSM] at hp1
  have hSM8 : SM ≤ 8 := by omega
  clear RT ht tl hE hx R hc I hcap HP1 hSA hCA hat hct hSM hcf hb0 Rw hj hc1 hc2 hLL I5 B5 z3 z4 z5 e5 ow ob
  go_enter Try.func86, Try.ntmps86
  go_wp2
  rw [HE5.out]
  clear HE5 e3 hB
  have q0 := HI5.out.base.q0
  have HLS : Hid (Lies W5.drew at' (x.shape.tail.map (Value.int .i64))) := (Lies.row_next HR.out (HBS.out.trans (HI5.out.base.bel.mono HBS.out.size))).drew
  have hsl : (x.shape.tail.map (Value.int .i64)).length = SM * 1 := by rw [List.length_map, HTL.out]; omega
  have HMX : Hid (1 + SM ≤ maxLen ∧ (1 + SM) * 8 ≤ 140737488355328 ∧ B ≤ W5.drew.heap.size) := ⟨by unfold maxLen; omega, by omega, by have := HZ.out.2.2; show B ≤ W5.heap.size; omega⟩
  have hBn : Hid (some (B + 1) ≠ some B) := by unfold Hid; simp
  have hBl : Hid (B + 1 < W5.drew.heap.size) := by have := HZ.out.2.2; show B + 1 < W5.heap.size; omega
  go_cut [7] from 16 to 22 (fun s7 wx => s7 = .pointer (some ⟨B + 1, 0, none⟩) ∧ ∃ gb cl w6, w6.ownsRow B 3 1 (.slice (some ⟨gb, 0, none⟩) (1 + SM) cl) (1 + SM) ([.int .i64 (L : Int)] ++ x.shape.tail.map (Value.int .i64)) ∧ W5.grownBy w6 (some B) ∧ wx = w6.setCell ⟨B + 1, 0, none⟩ (.slice (some ⟨gb, 0, none⟩) (1 + SM) cl))
  case first =>
    go_region_law (refine step_append_grown rfl (.tmp 17) (.tmp 20) 22 rfl B 3 i3 (.int .i64 0) 1 8 Try.underlying22 hi3 hz30 hz31 hz32 rfl (by decide) (.slice (some ⟨B, 0, none⟩) 1 1) 1 [.int .i64 (L : Int)] rfl HOW.out.1 at' SM ct (x.shape.tail.map (Value.int .i64)) rfl hsl HLS.out HMX.out.1 HMX.out.2.1 HMX.out.2.2 ?_; intro v' w4 hown4 hg4; obtain ⟨gb, cl, rfl, -, -⟩ := owns_form1' hown4 (by omega); have d0 := hg4.cell (a := ⟨B + 1, 0, none⟩) o0 hBn.out; have df0 := (World.frozen?_of_block (a := ⟨B + 1, 0, none⟩) (hg4.block (B + 1) hBl.out hBn.out)).trans of0)
    all_goals
      have HF4 := hide (And.intro hown4 hg4)
      clear hown4 hg4
      go_wp2
      go_meet
    all_goals
      case rel => exact ⟨rfl, _, _, _, HF4.out.1, ⟨HF4.out.2.os, HF4.out.2.tape, HF4.out.2.output, HF4.out.2.size, HF4.out.2.block⟩, rfl⟩
  case rest =>
  obtain ⟨rfl, gb, cl, w4, hown4, hg4, rfl⟩ := hcut
  clear q0 HLS hsl HMX
  have hz := HZ.out
  have hne : gb ≠ B + 1 := own_ne hown4 ((hg4.block (B + 1) (by omega) (by simp)).trans HOW.out.2)
  obtain ⟨gb', cl', hge, hgl, hgs⟩ := owns_form1' hown4 (by omega)
  simp only [Value.slice.injEq, Option.some.injEq, Addr.mk.injEq, and_true, true_and] at hge
  obtain ⟨rfl, rfl⟩ := hge
  have SC4 : SoftC w4 gb ((L : Int) :: x.shape.tail) := owns_softC (by rw [List.length_cons, HTL.out]; omega) hown4
  have d0 : w4.cell? ⟨B + 1, 0, none⟩ = some (.slice (some ⟨B, 0, none⟩) 1 1) := hg4.cell (a := ⟨B + 1, 0, none⟩) o0 (by simp)
  have d1 : w4.cell? ⟨B + 1, 1, none⟩ = some (.slice none 0 0) := hg4.cell (a := ⟨B + 1, 1, none⟩) o1 (by simp)
  have df1 : w4.frozen? ⟨B + 1, 1, none⟩ = false := (World.frozen?_of_block (a := ⟨B + 1, 1, none⟩) (hg4.block (B + 1) (by omega) (by simp))).trans of1
  have B54 : Below B W5 w4 := ⟨hg4.os, hg4.tape, hg4.output, hg4.size, fun b hb => hg4.block b (by omega) (by simp; omega)⟩
  obtain ⟨w6, e6⟩ : ∃ w6, w4.setCell ⟨B + 1, 0, none⟩ (.slice (some ⟨gb, 0, none⟩) (1 + SM) cl) = w6 := ⟨_, rfl⟩
  have z6 : w6.heap.size = w4.heap.size := by rw [← e6]; simp
  have B6 : Below B W5 w6 := by rw [← e6]; exact B54.setCell (p := ⟨B + 1, 0, none⟩) (by show B ≤ B + 1; omega) _
  have I6 := HI5.out.belowS B6 (by omega)
  have t0 : w6.cell? ⟨B + 1, 0, none⟩ = some (.slice (some ⟨gb, 0, none⟩) (1 + SM) cl) := by rw [← e6]; exact World.cell?_setCell_same' _ _ _ (by rw [d0]; rfl)
  have t1 : w6.cell? ⟨B + 1, 1, none⟩ = some (.slice none 0 0) := by rw [← e6, World.cell?_setCell_other _ _ _ _ (by simp)]; exact d1
  have tf1 : w6.frozen? ⟨B + 1, 1, none⟩ = false := by rw [← e6]; exact frozen_set _ _ _ _ df1
  have HSF : Hid (SoftC w6 gb ((L : Int) :: x.shape.tail) ∧ gb ≠ B + 1 ∧ B ≤ gb ∧ gb < w6.heap.size) := by
    refine ⟨fun i hi => ?_, hne, hgl, by rw [z6]; exact hgs⟩
    obtain ⟨s1, s2⟩ := SC4 i hi
    rw [← e6]
    exact ⟨by rw [World.cell?_setCell_other _ _ _ _ (by simp)]; exact s1, frozen_set _ _ _ _ s2⟩
  have HO6 : Hid (B + 1 < w6.heap.size) := by unfold Hid; rw [z6]; have := hg4.size; omega
  have C := rsize_any x.shape.tail at' ct w6 (HR.out.next (HBS.out.trans (I6.base.bel.mono HBS.out.size)))
  rw [HTL.out, HE.out] at C
  generalize sizeE x.shape.tail = EE at *
  obtain ⟨T, hT⟩ : ∃ T, T = itT x.cells ab cb m wh fk fN := ⟨_, rfl⟩
  have HTT := hide hT
  have HG6 := hide (GrowC.new (T := T) t0 t1 tf1)
  have HI6 := hide I6
  have q0 := I6.base.q0
  have HBZ : Hid (B = w.heap.size + 3) := by unfold Hid; omega
  rw [e6]
  clear hne hgl hgs SC4 d0 d1 df1 B54 B6 I6 e6 hown4 hg4 z6 hz t0 t1 tf1 HOW HI5 HZ o0 o1 of0 of1 hBn hBl hT
  go_wp2_with fail
  refine C.mono ?_
  clear C q0
  rintro e w7 ⟨rfl, rfl⟩
  go_wp2
  go_loopg [10] L (fun g i wr => ∃ (t : Nat) (v : Value), g + t = L ∧ i = .int .i64 (t : Int) ∧ GrowC w7 (B + 1) (.slice (some ⟨gb, 0, none⟩) (1 + SM) cl) T (t * m) v wr)
  case atStart => exact ⟨0, _, rfl, rfl, by rw [Nat.zero_mul]; exact HG6.out⟩
  case round =>
    clear HG6
    obtain ⟨t, v, hg, rfl, hgr⟩ := hrel
    obtain ⟨wo, hwo⟩ : ∃ wo, wo = wr := ⟨_, rfl⟩
    subst hwo
    have HGR := hide hgr
    have hBz := HBZ.out
    have BW := hgr.below (B := B) (by omega) HO6.out
    have I6 := HI6.out.belowS BW (by omega)
    by_cases hlt : t < L
    · obtain ⟨wb, wf, rfl, hwb, hwc⟩ := row_at HRW.out (j := t) (by rw [HLL.out]; exact hlt)
      have hwc' : w.cell? ⟨wb, wf + t, none⟩ = some (.int .i64 (gI wh t)) := hwc
      have k0 := (I6.base.bel.cell (p := ⟨wb, wf + t, none⟩) hwb).trans hwc'
      have hLz : (t : Int) < (L : Int) := by omega
      have hJ := HJ.out t (by rw [HLL.out]; exact hlt)
      have HTS : Hid (∀ q, q < m → T (t * m + q) = if 0 ≤ gI wh t then cellT x.cells ab cb ((gI wh t).toNat * m + q) else (.int .i64 fk, .int .i64 fN, .slice none 0 0)) := fun q hq => by
        rw [HTT.out]; unfold itT; rw [(div_at hq).1, (div_at hq).2]
      have htm : t * m + m ≤ 16384 := by
        have := Nat.mul_le_mul_right m (show t + 1 ≤ L by omega)
        rw [Nat.succ_mul] at this; omega
      have HTM := hide htm
      have d1 := hgr.c1
      have df1 := hgr.f1
      have hO := HO6.out
      have hsz := hgr.io.size
      clear hwc hwc' hwb
      by_cases hz0 : 0 ≤ gI wh t
      · obtain ⟨j, hjz⟩ : ∃ j : Nat, gI wh t = (j : Int) := ⟨(gI wh t).toNat, by omega⟩
        obtain ⟨hj1, hj2⟩ := hJ hz0
        have HTI : Hid (rowT T (t * m + m) = rowT T (t * m) ++ rowT (fun q => cellT x.cells ab cb (j * m + q)) m) := by
          unfold Hid
          rw [rowT_add]
          congr 1
          exact rowT_congr fun q hq => by rw [HTS.out q hq, if_pos hz0, hjz, Int.toNat_natCast]
        rw [hjz] at k0 hj1 hj2
        rw [Int.toNat_natCast] at hj1 hj2
        have hkk := HK.out
        have HX' := HX.out
        have C9 := ritem_two (i := j) (m := m) (w := wo.drew) HX' (HBS.out.trans (I6.base.bel.mono HBS.out.size)).drew HCF.out (HB0.out.trans (I6.base.bel.mono HB0.out.size)).drew hkk.1 hkk.2.1 HE.out hj1 hkk.2.2.1 hj2 hkk.2.2.2.1 hkk.2.2.2.2
        rw [HSC.out.1, HSC.out.2] at C9
        have HC9 := hide C9
        have q0 := I6.base.q0
        have q1 := I6.base.q1
        have hjn : (0 : Int) ≤ (j : Int) := by omega
        have hfld := field25
        have HWS : Hid (B + 1 < wo.drew.heap.size ∧ w7.heap.size ≤ wo.drew.heap.size) := ⟨by show B + 1 < wo.heap.size; omega, by show _ ≤ wo.heap.size; omega⟩
        have HMX : Hid (t * m + m ≤ maxLen ∧ (t * m + m) * 40 ≤ 140737488355328) := ⟨by unfold maxLen; omega, by omega⟩
        have HRL : Hid ((rowT (fun q => cellT x.cells ab cb (j * m + q)) m).length = m * 3) := rowT_len _ _
        clear hj1 hj2 hJ hkk HX' C9 I6 BW HTS hz0 hjz hgr htm hsz hO hBz
        go_wp2
        go_region_law (first
          | (refine step_append_any rfl (.tmp 42) (.tmp 49) 23 rfl w7.heap.size 36 i0 (.agg #[.int .i64 0, .int .i64 0, .slice none 0 0]) 3 40 Try.underlying23 hi0 hz00 hz01 hz02 rfl (by decide) v (t * m) (rowT T (t * m)) (by first | rfl | go_simp) HO9.out a3 m c3 (rowT (fun q => cellT x.cells ab cb (j * m + q)) m) (by first | rfl | go_simp) HRL.out HL9.out HMX.out.1 HMX.out.2 HS9.out ?_; intro v' w1 hown1 hb1; obtain ⟨a4, c4, rfl, -⟩ := owns_cap hown1; have dd1 := (hb1.cell (p := ⟨B + 1, 1, none⟩) HO6.out).trans d9; have dd3 := (hb1.frozen (p := ⟨B + 1, 1, none⟩) HO6.out).trans df9)
          | (go_simp; go_at_call 71; refine HC9.out.mono ?_; rintro e w9 ⟨⟨sa9, sn9, sc9, a3, c3, rfl, hl9⟩, hb9⟩; have HO9 := hide (owns_below HGR.out.own ((Below.refl wo.heap.size wo).drew.trans hb9)); have HL9 := hide hl9; have HS9 := hide (Nat.le_trans HWS.out.2 hb9.size); have HB9 := hide hb9; have d9 := (hb9.cell (p := ⟨B + 1, 1, none⟩) HWS.out.1).trans d1; have df9 := (hb9.frozen (p := ⟨B + 1, 1, none⟩) HWS.out.1).trans df1))
        all_goals
          have hown2 : w1.ownsRow w7.heap.size 36 3 (.slice a4 (t * m + m) c4) (t * m + m) (rowT T (t * m + m)) := by rw [HTI.out]; exact hown1
          have HNX := hide (HGR.out.stepN HO6.out (((Below.refl w7.heap.size wo).drew.trans (HB9.out.mono HWS.out.2)).trans hb1) hown2)
          clear hown1 hown2 hb1 dd1 dd3 HB9 HL9 HO9 HS9 hb9 hl9 d9 df9 HC9 HTI HMX HRL hfld
          go_wp2
          go_roundg (L - (t + 1))
          case rel => exact ⟨t + 1, _, by omega, by go_num, by rw [Nat.succ_mul]; exact HNX.out⟩
          case measure => omega
      · have hzn : ¬ (0 : Int) ≤ gI wh t := hz0
        have hzl : gI wh t < 0 := by omega
        have HT2 : Hid (∀ q, q < m → T (t * m + q) = (.int .i64 fk, .int .i64 fN, .slice none 0 0)) := fun q hq => by rw [HTS.out q hq, if_neg hz0]
        have HG0 := hide hgr
        generalize gI wh t = z at *
        clear hJ HTS hz0 hgr htm hsz hO hBz I6 BW d1 df1
        go_wp2
        go_loopg [11] m (fun g i wr => ∃ (k : Nat) (v : Value), g + k = m ∧ i = .int .i64 (k : Int) ∧ GrowC w7 (B + 1) (.slice (some ⟨gb, 0, none⟩) (1 + SM) cl) T (t * m + k) v wr)
        case atStart => exact ⟨0, _, rfl, rfl, HG0.out⟩
        case round =>
          clear HG0 k0 HGR
          obtain ⟨k, v2, hgk, rfl, hgr⟩ := hrel
          obtain ⟨wq, hwq⟩ : ∃ wq, wq = wr := ⟨_, rfl⟩
          subst hwq
          have HGR := hide hgr
          by_cases hk : k < m
          · have hBz := HBZ.out
            have hO := HO6.out
            have hsz := hgr.io.size
            have htm := HTM.out
            have I8 := HI6.out.belowS (hgr.below (B := B) (by omega) HO6.out) (by omega)
            have r0 := I8.base.r0
            have r1 := I8.base.r1
            have r2 := I8.r2
            have d1 := hgr.c1
            have df1 := hgr.f1
            have hkm : (k : Int) < (m : Int) := by omega
            have HSTEP : Hid (rowT T (t * m + k + 1) = rowT T (t * m + k) ++ [.int .i64 fk, .int .i64 fN, .slice none 0 0]) := by unfold Hid; rw [rowT_step, HT2.out k hk]
            have OWN := hgr.own.alloc (.cells #[.int .i64 fk, .int .i64 fN, .slice none 0 0] 36)
            have x0 : (wq.alloc (.cells #[.int .i64 fk, .int .i64 fN, .slice none 0 0] 36)).cell? ⟨B + 1, 1, none⟩ = some v2 := ((one_alloc wq _).cell (p := ⟨B + 1, 1, none⟩) (by show B + 1 < _; omega)).trans d1
            have HNW : Hid (∀ i u, [Value.int .i64 fk, .int .i64 fN, .slice none 0 0][i]? = some u → (wq.alloc (.cells #[.int .i64 fk, .int .i64 fN, .slice none 0 0] 36)).cell? ((⟨wq.heap.size, 0, none⟩ : Addr).add i) = some u) := by
              intro i u hu
              rw [add_off, Nat.zero_add]
              exact cell_new0 wq _ 36 i u (by simpa using hu)
            have HMX : Hid (t * m + k + 1 ≤ maxLen ∧ (t * m + k + 1) * 40 ≤ 140737488355328 ∧ w7.heap.size ≤ (wq.alloc (.cells #[.int .i64 fk, .int .i64 fN, .slice none 0 0] 36)).heap.size) := ⟨by unfold maxLen; omega, by omega, Nat.le_trans hsz (one_alloc _ _).size⟩
            have HAB : Hid (Below w7.heap.size wq (wq.alloc (.cells #[.int .i64 fk, .int .i64 fN, .slice none 0 0] 36))) := (one_alloc wq _).mono hsz
            have HONE : Hid (∀ u ∈ [Value.int .i64 fk, .int .i64 fN, .slice none 0 0], u.oneCell' = true) := by
              intro u hu
              simp at hu
              rcases hu with rfl | rfl | rfl <;> rfl
            clear hgr I8 hBz hO hsz htm
            go_wp2_with (at_builtin; refine wpList_append_B rfl _ _ 23 rfl w7.heap.size 36 i0 (.agg #[.int .i64 0, .int .i64 0, .slice none 0 0]) 3 40 Try.underlying23 hi0 hz00 hz01 hz02 rfl (by decide) _ _ _ rfl OWN ⟨wq.heap.size, 0, none⟩ 1 1 [.int .i64 fk, .int .i64 fN, .slice none 0 0] rfl rfl HNW.out HONE.out HMX.out.1 HMX.out.2.1 HMX.out.2.2 ?_)
            intro v' w1 hown1 hb1
            obtain ⟨a4, c4, rfl, -⟩ := owns_cap hown1
            have hown2 : w1.ownsRow w7.heap.size 36 3 (.slice a4 (t * m + k + 1) c4) (t * m + k + 1) (rowT T (t * m + k + 1)) := by rw [HSTEP.out]; exact hown1
            have dd1 := (HAB.out.trans hb1).cell (p := ⟨B + 1, 1, none⟩) HO6.out |>.trans d1
            have dd3 := (HAB.out.trans hb1).frozen (p := ⟨B + 1, 1, none⟩) HO6.out |>.trans df1
            have HNX := hide (HGR.out.step HO6.out (HAB.out.trans hb1) hown2)
            clear hown1 hown2 hb1 OWN HNW HMX HAB HONE HSTEP x0 d1 df1 r0 r1 r2
            go_wp2
            go_roundg (m - (k + 1))
            case rel => exact ⟨k + 1, _, by omega, by go_num, HNX.out⟩
            case measure => omega
          · have hke : k = m := by omega
            subst hke
            have hkm : ¬ (k : Int) < (k : Int) := by omega
            clear hgr
            go_wp2
            go_roundg (L - (t + 1))
            case rel => exact ⟨t + 1, _, by omega, by go_num, by rw [Nat.succ_mul]; exact HGR.out⟩
            case measure => omega
    · have hte : t = L := by omega
      subst hte
      obtain ⟨g2, cp2, rfl, hcells⟩ := owns_cellsT T hgr.own
      have d0' := hgr.c0
      have d1' := hgr.c1
      have p0 := I6.base.p0
      have p1 := I6.base.p1
      have f0 := I6.base.f0
      have f1 := I6.base.f1
      have HT := hide (I6.base.put (.slice (some ⟨gb, 0, none⟩) (1 + SM) cl) (.slice g2 (t * m) cp2))
      have HFIN : Hid (∀ u v, GivesZ (n + 1) w0 (itmsA x m wh fk fN) w (.returned (.agg #[.slice (some ⟨gb, 0, none⟩) (1 + SM) cl, .slice g2 (t * m) cp2])) ((wo.setCell ⟨w.heap.size + 2, 0, none⟩ u).setCell ⟨w.heap.size + 2, 1, none⟩ v)) := by
        intro u v
        refine ⟨⟨_, rfl, fun W hW hK => ?_⟩, I6.base.fin u v⟩
        obtain ⟨SC, hne, hgl, hgs⟩ := HSF.out
        have hsz := hgr.io.size
        have hO := HO6.out
        have K2 : Keeps B wo ((wo.setCell ⟨w.heap.size + 2, 0, none⟩ u).setCell ⟨w.heap.size + 2, 1, none⟩ v) := ((Keeps.refl _ _).setCell (p := ⟨w.heap.size + 2, 0, none⟩) (by show w.heap.size + 2 < _; omega) u).setCell (p := ⟨w.heap.size + 2, 1, none⟩) (by show w.heap.size + 2 < _; omega) v
        have K3 := K2.trans (hK.mono (show w.heap.size ≤ B by omega))
        have RF : Row 0 W (some ⟨gb, 0, none⟩) ((t : Int) :: x.shape.tail) := by
          refine ⟨by rw [List.length_cons, HTL.out]; omega, Or.inr ⟨gb, 0, rfl, Nat.zero_le _, by have := K3.1; omega, fun i hi => ?_⟩⟩
          rw [Nat.zero_add]
          exact (K3.cell (p := ⟨gb, i, none⟩) hgl (by show gb < _; omega)).trans (hgr.cell hgs hne (SC i hi).1)
        have hcl : (itmsA x m wh fk fN).cells.length = t * m := by show (mkCs _ _).length = _; rw [mkCs_len, HLL.out]
        refine arIn_mk (x := itmsA x m wh fk fN) (by show Row 0 W _ ((wh.length : Int) :: x.shape.tail); rw [HLL.out]; exact RF) (by rw [hcl]; omega) ?_ (by show (List.cons _ x.shape.tail).length = _; rw [List.length_cons, HTL.out]; omega) hcl
        rcases hcells with h0 | ⟨g, rfl, hg1, hg2, hcc⟩
        · exact Or.inl (List.eq_nil_of_length_eq_zero (by rw [hcl]; exact h0))
        · refine Or.inr ⟨g, 0, rfl, Nat.zero_le _, Nat.lt_of_lt_of_le hg2 K3.1, fun i hi => ?_⟩
          rw [hcl] at hi
          obtain ⟨e0, e1, e2⟩ := hcc i hi
          rw [Nat.zero_add]
          have ap : ∀ (o : Nat) (q : Value), wo.cell? ⟨g, o, none⟩ = some q → W.cell? ⟨g, o, none⟩ = some q := fun o q h => (K3.cell (p := ⟨g, o, none⟩) (by show B ≤ g; omega) hg2).trans h
          refine ⟨_, _, _, ap _ _ e0, ap _ _ e1, ap _ _ e2, ?_⟩
          have hm0 : 0 < m := by
            rcases Nat.eq_zero_or_pos m with h | h
            · rw [h] at hi; simp at hi
            · exact h
          have hd : i / m < t := Nat.div_lt_of_lt_mul (by rw [Nat.mul_comm]; exact hi)
          have hr := Nat.mod_lt i hm0
          have ec : cAt (itmsA x m wh fk fN).cells i = itC x m wh fk fN i := mkCs_at _ _ _ (by rw [HLL.out]; exact hi)
          rw [ec, HTT.out]
          unfold itC itT
          by_cases hz : 0 ≤ gI wh (i / m)
          · rw [if_pos hz, if_pos hz]
            obtain ⟨hj1, -⟩ := HJ.out (i / m) (by rw [HLL.out]; exact hd) hz
            obtain ⟨b, off, -, -, hb, hcl2⟩ := HCF.out (by omega)
            obtain ⟨-, -, -, hce⟩ := hcl2 ((gI wh (i / m)).toNat * m + i % m) (by omega)
            exact hce.mono (Nat.zero_le _) hW fun x v h => h.mono (Nat.zero_le _) hW
          · rw [if_neg hz, if_neg hz]
            exact ⟨rfl, rfl, none, 0, rfl, by simp, Or.inl rfl⟩
      clear I6 hgr HGR HCF hcells BW HSF HJ HSC HTT hBz HI6 HX HBZ
      go_wp2
      exact bodyPost_ret (v := .agg #[.slice (some ⟨gb, 0, none⟩) (1 + SM) cl, .slice g2 (t * m) cp2]) (by simp [results, Try.results86, go_sem, HT.out.1, HT.out.2]) rfl (HFIN.out _ _)
theorem ritems_any {n lo lo' m : Nat} {x : Ar} {va : Value} {wh : List Int} {aw : Option Addr} {cw : Nat} {w0 w : World} (fk fN : Int) (hx : ArIn (n + 1) lo w0 x va) (hb0 : Below w0.heap.size w0 w) (Rw : Row lo' w aw wh) (hs : 0 < x.shape.length) (h8 : x.shape.length ≤ 8) (hE : sizeV x.shape.tail = (m : Int)) (hc16 : x.cells.length ≤ 16384) (hcap : Caps va) (hL : wh.length ≤ 16384) (hLm : wh.length * m ≤ 16384) (hm16 : m ≤ 16384)
    (hj : ∀ t, t < wh.length → 0 ≤ gI wh t → (gI wh t).toNat * m + m ≤ x.cells.length ∧ (gI wh t).toNat ≤ 16384) :
    Calls Try.prog 86 #[va, .slice aw wh.length cw, .agg #[.int .i64 fk, .int .i64 fN, .slice none 0 0]] w fun e w' => GivesZ (n + 1) w0 (itmsA x m wh fk fN) w e w' := ritems_two fk fN hx.two hb0 hb0 Rw hs h8 hE hc16 hcap hL hLm hm16 hj
end Go.Proofs.Ytmjncdhahdpplaa
namespace Go.Proofs.Ytmjncdhahdpplaa
open Go.ChangeShapes Go.WideShapes Go.ChangeAt Go.RowKit
set_option linter.unusedVariables false
set_option maxRecDepth 100000
theorem sizeV_nat (l : List Int) : ∃ m : Nat, sizeV l = (m : Int) ∧ m ≤ 16384 := by
  by_cases h : 8 < l.length ∨ hasNeg l ∨ hasZero l ∨ 16384 < prodL l
  · exact ⟨0, by unfold sizeV; rw [if_pos h]; rfl, by omega⟩
  · have h1 : ¬ hasNeg l := fun g => h (Or.inr (Or.inl g))
    have h2 : ¬ hasZero l := fun g => h (Or.inr (Or.inr (Or.inl g)))
    have h3 : ¬ 16384 < prodL l := fun g => h (Or.inr (Or.inr (Or.inr g)))
    have := prodL_pos (l := l) fun z hz => all_pos h1 h2 z hz
    refine ⟨(prodL l).toNat, ?_, by omega⟩
    unfold sizeV; rw [if_neg h]; omega
theorem sizeV_zero {l : List Int} (h : hasZero l) : sizeV l = 0 := by unfold sizeV; rw [if_pos (Or.inr (Or.inr (Or.inl h)))]
theorem size_cons {d : Int} {t : List Int} (h : sizeE (d :: t) = 0) (hd : 0 < d) : sizeV (d :: t) = d * sizeV t := by
  obtain ⟨h8, hp, hc⟩ := fine_cases h
  rcases hc with ⟨hz, hv⟩ | ⟨hq, hm, hv⟩
  · rw [hv, sizeV_zero (l := t) ?_, Int.mul_zero]
    obtain ⟨z, hz, hz0⟩ := hz
    rcases List.mem_cons.1 hz with rfl | hz
    · omega
    · exact ⟨z, hz, hz0⟩
  · have pt := prodL_pos (l := t) fun z hz => hq z (List.mem_cons_of_mem _ hz)
    have e : prodL (d :: t) = d * prodL t := rfl
    have hle : prodL t ≤ 16384 := by
      have := Int.mul_le_mul_of_nonneg_right (show (1 : Int) ≤ d by omega) (show 0 ≤ prodL t by omega)
      rw [Int.one_mul, ← e] at this; omega
    rw [hv, e, (fine_mk (l := t) (by simp at h8; omega) (fun z hz => hp z (List.mem_cons_of_mem _ hz)) (Or.inr hle)).2]
/-- An item's cells lie inside. -/
theorem item_le {y : Ar} (hy : chkA 8 y = 0) (hS : 0 < y.shape.length) {D m j : Nat} (hD : gI y.shape 0 = (D : Int)) (hm : sizeV y.shape.tail = (m : Int)) (hj : j < D) : j * m + m ≤ y.cells.length ∧ y.cells.length = D * m := by
  obtain ⟨h1, h2, -⟩ := (chkA_iff 8 y).1 hy
  obtain ⟨d, t, hdt⟩ : ∃ d t, y.shape = d :: t := by
    cases hsh : y.shape with
    | nil => rw [hsh] at hS; simp at hS
    | cons d t => exact ⟨d, t, rfl⟩
  have ed : d = (D : Int) := by rw [← hD, hdt]; rfl
  rw [hdt] at h1 h2 hm
  rw [size_cons h1 (by omega), ed, show sizeV t = (m : Int) from hm] at h2
  have e : y.cells.length = D * m := by
    have : ((D * m : Nat) : Int) = (y.cells.length : Int) := by rw [Int.natCast_mul]; omega
    omega
  refine ⟨?_, e⟩
  have := Nat.mul_le_mul_right m (show j + 1 ≤ D by omega)
  rw [Nat.succ_mul] at this
  omega
theorem mkCs_congr {N : Nat} {f g : Nat → Ce} (h : ∀ p, p < N → f p = g p) : mkCs N f = mkCs N g := List.map_congr_left fun p hp => h p (List.mem_range.1 hp)
/-- The items by their numbers are the array along its first axis. -/
theorem items_along {y : Ar} (hS : 0 < y.shape.length) {D m : Nat} (hm : sizeV y.shape.tail = (m : Int)) {l : List Int} (hl : ∀ i, i < l.length → 0 ≤ gI l i) (hE : sizeE ((l.length : Int) :: y.shape.tail) = 0) (fk fN : Int) : itmsA y m l fk fN = alongA y 0 l := by
  have hset : y.shape.set 0 (l.length : Int) = (l.length : Int) :: y.shape.tail := by
    cases hsh : y.shape with
    | nil => rw [hsh] at hS; simp at hS
    | cons d t => rfl
  have hd : y.shape.drop (0 + 1) = y.shape.tail := by rw [Nat.zero_add, List.drop_one]
  have hN : (sizeV ((l.length : Int) :: y.shape.tail)).toNat = l.length * m := by
    rcases Nat.eq_zero_or_pos l.length with h0 | h0
    · rw [h0, sizeV_zero (l := ((0 : Nat) : Int) :: y.shape.tail) ⟨_, List.mem_cons_self, rfl⟩]; simp
    · rw [size_cons hE (by omega), hm, ← Int.natCast_mul, Int.toNat_natCast]
  unfold itmsA alongA
  rw [hset, hd, hm, Int.toNat_natCast, hN]
  congr 1
  refine mkCs_congr fun p hp => ?_
  have hm0 : 0 < m := by
    rcases Nat.eq_zero_or_pos m with h | h
    · rw [h] at hp; simp at hp
    · exact h
  have hd : p / m < l.length := Nat.div_lt_of_lt_mul (by rw [Nat.mul_comm]; exact hp)
  unfold itC alongQ
  rw [if_pos (hl _ hd), Nat.div_eq_of_lt hd, Nat.mod_eq_of_lt hd, Nat.zero_mul, Nat.zero_add]
theorem fromL_step (f c : Nat) : fromL f (c + 1) = fromL f c ++ [((f + c : Nat) : Int)] := by simp [fromL, List.range_succ]
set_option maxHeartbeats 4000000 in
theorem rdrop_two {ws : World} {n lo D m : Nat} {y : Ar} {va : Value} {w0 w : World} (z : Int) (hy : ArW n lo ws w0 y va) (hbs : Below ws.heap.size ws w) (hb0 : Below w0.heap.size w0 w) (hcy : chkA 8 y = 0) (hcap : Caps va) (hS : 0 < y.shape.length) (hD : gI y.shape 0 = (D : Int)) (hm : sizeV y.shape.tail = (m : Int)) (hI : I64 z) :
    Calls Try.prog 52 #[.int .i64 z, va] w fun e w' => GivesZ (n + 1) w0 (itmsA y m (fromL (drpF z D) (drpN z D)) 0 0) w e w' := by
  obtain ⟨a1, c1, a2, c2, rfl, R, hc⟩ := id hy
  obtain ⟨i3, hi3, hz30, hz31, hz32⟩ := infoI3
  obtain ⟨l8, c16⟩ := chk_len hcy
  have I := in2_new w (.slice a1 y.shape.length c1) (.slice a2 y.cells.length c2)
  obtain ⟨W2, e2⟩ : ∃ W2, (w.alloc (.cells #[.slice a1 y.shape.length c1, .slice a2 y.cells.length c2] 25)).alloc (.cells #[.slice none 0 0, .slice none 0 0] 25) = W2 := ⟨_, rfl⟩
  rw [e2] at I
  obtain ⟨f, hf⟩ : ∃ f, drpF z D = f := ⟨_, rfl⟩
  obtain ⟨N, hN⟩ : ∃ N, drpN z D = N := ⟨_, rfl⟩
  have hfN : (z < 0 ∧ f = 0 ∧ (N : Int) = max ((D : Int) + z) 0) ∨ (0 ≤ z ∧ (f : Int) = min z (D : Int) ∧ f + N = D) := by
    rw [← hf, ← hN]; unfold drpF drpN
    by_cases h : z < 0
    · rw [if_pos h, if_pos h]; exact Or.inl ⟨h, rfl, by omega⟩
    · rw [if_neg h, if_neg h]; exact Or.inr ⟨by omega, by omega, by omega⟩
  rw [hf, hN]
  have hle : f + N ≤ D := by rw [← hf, ← hN]; exact drp_le z D
  have hD16 : D ≤ 16384 := by have := ((chk_axes hcy).1 (gI y.shape 0) (getD_mem hS)).2; omega
  obtain ⟨yb, yo, rfl, hyb, hyc⟩ := row_at R (j := 0) hS
  have eg : y.shape[0]?.getD 0 = (D : Int) := hD
  rw [eg, Nat.add_zero] at hyc
  have hbw := hbs.trans (I.bel.mono hbs.size)
  have u0 := (hbw.cell (p := ⟨yb, yo, none⟩) hyb).trans hyc
  have q0 := I.q0
  have q1 := I.q1
  have HI := hide I
  have HB0 := hide hb0
  have HBS := hide hbs
  have HY := hide (And.intro hy hcap)
  have HCK := hide (And.intro hcy (And.intro hD (And.intro hm hS)))
  have HFN := hide (And.intro hfN hle)
  have hI1 : -9223372036854775808 ≤ z ∧ z ≤ 9223372036854775807 := hI
  obtain ⟨SA, hSA⟩ : ∃ SA, y.shape.length = SA := ⟨_, rfl⟩
  obtain ⟨CA, hCA⟩ : ∃ CA, y.cells.length = CA := ⟨_, rfl⟩
  have HSC := hide (And.intro hSA hCA)
  simp only [hSA, hCA] at e2 q0 q1 HI HY hS l8 c16 ⊢
  have hS1 : (0 : Int) < (SA : Int) := by omega
  clear I R hc hy hcap hb0 hcy hD hm hfN hle hf hN hSA hCA hbw hyc hyb eg hI
  go_enter Try.func52, Try.ntmps52
  go_wp2
  clear e2 u0
  go_loopg [5, 7] D (fun g wv i wr => ∃ t : Nat, g + t = D ∧ i = .int .i64 (t : Int) ∧ Below W2.heap.size W2 wr ∧ wr.ownsRow W2.heap.size 3 1 wv (min (t - f) N) ((fromL f (min (t - f) N)).map (Value.int .i64)))
  case atStart => exact ⟨0, rfl, rfl, Below.refl _ _, by rw [show min (0 - f) N = 0 by omega]; exact World.ownsRow_nil _ _ _ _⟩
  case round =>
    obtain ⟨t, hg, rfl, hnx, hown⟩ := hrel
    have hFN := HFN.out
    by_cases hlt : t < D
    · have hltz : (t : Int) < (D : Int) := by omega
      have hwn : IntKind.i64.wrap (-(D : Int)) = -(D : Int) := IntWalk.i64_in _ ⟨by omega, by omega⟩
      by_cases hin : f ≤ t ∧ t < f + N
      · have hc1 : min (t + 1 - f) N = min (t - f) N + 1 := by omega
        have hc2 : f + min (t - f) N = t := by omega
        have HST : Hid (fromL f (min (t - f) N + 1) = fromL f (min (t - f) N) ++ [(t : Int)]) := by unfold Hid; rw [fromL_step, hc2]
        have HC1 := hide hc1
        obtain ⟨c, hc⟩ : ∃ c, min (t - f) N = c := ⟨_, rfl⟩
        rw [hc] at hown HST HC1
        have hcb : c ≤ 16384 := by omega
        by_cases hz : 0 ≤ z
        · have hzt : z ≤ (t : Int) := by omega
          clear hFN hc1 hc2 hc hin
          have OWN := hown.alloc (.cells #[.int .i64 (t : Int)] 3)
          have HNW : Hid (∀ i u, [Value.int .i64 (t : Int)][i]? = some u → (wr.alloc (.cells #[.int .i64 (t : Int)] 3)).cell? ((⟨wr.heap.size, 0, none⟩ : Addr).add i) = some u) := by
            intro i u hu
            rw [add_off, Nat.zero_add]
            exact cell_new0 wr _ 3 i u (by simpa using hu)
          have HZZ : Hid (W2.heap.size ≤ (wr.alloc (.cells #[.int .i64 (t : Int)] 3)).heap.size) := Nat.le_trans hnx.size (one_alloc _ _).size
          have HNX := hide (hnx.trans ((one_alloc wr (.cells #[.int .i64 (t : Int)] 3)).mono hnx.size))
          clear hown hnx
          go_wp2_with (at_builtin; refine wpList_append_B rfl _ _ 22 rfl W2.heap.size 3 i3 (.int .i64 0) 1 8 Try.underlying22 hi3 hz30 hz31 hz32 rfl (by decide) _ _ _ rfl OWN ⟨wr.heap.size, 0, none⟩ 1 1 [.int .i64 (t : Int)] rfl rfl HNW.out ?c2 ?c3 ?c4 HZZ.out ?_)
          case c2 => first | rfl | (intro u hu; simp at hu; subst hu; rfl)
          case c3 => unfold maxLen; omega
          case c4 => omega
          intro v' w1 hown1 hb1
          have hown2 : w1.ownsRow W2.heap.size 3 1 v' (c + 1) ((fromL f (c + 1)).map (Value.int .i64)) := by rw [HST.out]; simpa using hown1
          have HF := hide (And.intro (HNX.out.trans hb1) hown2)
          clear hown1 hown2 hb1 OWN HNW HZZ HNX HST
          clear hltz hwn
          go_wp2
          go_roundg (D - (t + 1))
          case rel => exact ⟨t + 1, by omega, by go_num, HF.out.1, by rw [HC1.out]; exact HF.out.2⟩
          case measure => omega
        · have hz1 : z < 0 := by omega
          have hz2 : -(D : Int) < z := by omega
          have hz3 : (t : Int) < (D : Int) + z := by omega
          have hw5 : IntKind.i64.wrap ((D : Int) + z) = (D : Int) + z := IntWalk.i64_in _ ⟨by omega, by omega⟩
          clear hFN hc1 hc2 hc hin
          have OWN := hown.alloc (.cells #[.int .i64 (t : Int)] 3)
          have HNW : Hid (∀ i u, [Value.int .i64 (t : Int)][i]? = some u → (wr.alloc (.cells #[.int .i64 (t : Int)] 3)).cell? ((⟨wr.heap.size, 0, none⟩ : Addr).add i) = some u) := by
            intro i u hu
            rw [add_off, Nat.zero_add]
            exact cell_new0 wr _ 3 i u (by simpa using hu)
          have HZZ : Hid (W2.heap.size ≤ (wr.alloc (.cells #[.int .i64 (t : Int)] 3)).heap.size) := Nat.le_trans hnx.size (one_alloc _ _).size
          have HNX := hide (hnx.trans ((one_alloc wr (.cells #[.int .i64 (t : Int)] 3)).mono hnx.size))
          clear hown hnx
          go_wp2_with (at_builtin; refine wpList_append_B rfl _ _ 22 rfl W2.heap.size 3 i3 (.int .i64 0) 1 8 Try.underlying22 hi3 hz30 hz31 hz32 rfl (by decide) _ _ _ rfl OWN ⟨wr.heap.size, 0, none⟩ 1 1 [.int .i64 (t : Int)] rfl rfl HNW.out ?c2 ?c3 ?c4 HZZ.out ?_)
          case c2 => first | rfl | (intro u hu; simp at hu; subst hu; rfl)
          case c3 => unfold maxLen; omega
          case c4 => omega
          intro v' w1 hown1 hb1
          have hown2 : w1.ownsRow W2.heap.size 3 1 v' (c + 1) ((fromL f (c + 1)).map (Value.int .i64)) := by rw [HST.out]; simpa using hown1
          have HF := hide (And.intro (HNX.out.trans hb1) hown2)
          clear hown1 hown2 hb1 OWN HNW HZZ HNX HST
          clear hltz hwn
          go_wp2
          go_roundg (D - (t + 1))
          case rel => exact ⟨t + 1, by omega, by go_num, HF.out.1, by rw [HC1.out]; exact HF.out.2⟩
          case measure => omega
      · have hc1 : min (t + 1 - f) N = min (t - f) N := by omega
        have HF := hide (And.intro hnx hown)
        have HC1 := hide hc1
        by_cases hz : 0 ≤ z
        · have hzt : ¬ z ≤ (t : Int) := by omega
          clear hFN hc1 hin hnx hown
          go_wp2
          go_roundg (D - (t + 1))
          case rel => exact ⟨t + 1, by omega, by go_num, HF.out.1, by rw [HC1.out]; exact HF.out.2⟩
          case measure => omega
        · have hz1 : z < 0 := by omega
          by_cases hz2 : -(D : Int) < z
          · have hz3 : ¬ (t : Int) < (D : Int) + z := by omega
            have hw5 : IntKind.i64.wrap ((D : Int) + z) = (D : Int) + z := IntWalk.i64_in _ ⟨by omega, by omega⟩
            clear hFN hc1 hin hnx hown
            go_wp2
            go_roundg (D - (t + 1))
            case rel => exact ⟨t + 1, by omega, by go_num, HF.out.1, by rw [HC1.out]; exact HF.out.2⟩
            case measure => omega
          · clear hFN hc1 hin hnx hown
            go_wp2
            go_roundg (D - (t + 1))
            case rel => exact ⟨t + 1, by omega, by go_num, HF.out.1, by rw [HC1.out]; exact HF.out.2⟩
            case measure => omega
    · have hte : t = D := by omega
      subst hte
      have hc0 : min (t - f) N = N := by omega
      rw [hc0] at hown
      obtain ⟨aw, cw, rfl, RW⟩ := owns_rowE (fromL f N) (by rw [fromL_len]; omega) (by rw [fromL_len]; exact hown)
      have I6 := HI.out.next hnx
      have hck := HCK.out
      obtain ⟨m', hm', hm16⟩ := sizeV_nat y.shape.tail
      obtain rfl : m' = m := by have := hck.2.2.1; omega
      have hS0 : 0 < y.shape.length := hck.2.2.2
      have HNm : N * m' ≤ 16384 := by
        rcases Nat.eq_zero_or_pos N with h | h
        · rw [h]; omega
        · obtain ⟨h1, h2⟩ := item_le hck.1 hS0 hck.2.1 hm' (j := 0) (by omega)
          have := Nat.mul_le_mul_right m' (show N ≤ t by omega)
          have := HSC.out.2
          omega
      have hY := HY.out
      rw [← HSC.out.1, ← HSC.out.2] at hY
      have C := ritems_two (w := wr) (cw := cw) 0 0 hY.1 (HBS.out.trans (I6.bel.mono HBS.out.size)) (HB0.out.trans (I6.bel.mono HB0.out.size)) RW hS0 (by rw [HSC.out.1]; exact l8) hm' (by rw [HSC.out.2]; exact c16) hY.2 (by rw [fromL_len]; omega) (by rw [fromL_len]; exact HNm) hm16 (fun i hi h0 => by
        rw [fromL_len] at hi
        rw [fromL_at f N i hi, Int.toNat_natCast]
        exact ⟨(item_le hck.1 hS0 hck.2.1 hm' (j := f + i) (by omega)).1, by omega⟩)
      rw [HSC.out.1, HSC.out.2, fromL_len] at C
      have r0 := I6.q0
      have r1 := I6.q1
      have HI6 := hide I6
      have HSZ : Hid (w.heap.size + 2 ≤ wr.heap.size) := I6.size
      rw [fromL_len]
      clear hown hnx I6 hck hY RW hFN hc0 HNm
      go_wp2_with fail
      refine C.mono ?_
      clear C
      rintro e w9 ⟨⟨vr, rfl, hv⟩, hb9⟩
      have I9 := HI6.out.next hb9
      obtain ⟨b1, d1, b2, d2, rfl, -, -⟩ := (hv w9 (HB0.out.trans (I9.bel.mono HB0.out.size)) (Keeps.refl _ _)).form
      have p0 := I9.p0
      have p1 := I9.p1
      have f0 := I9.f0
      have f1 := I9.f1
      generalize (itmsA y m' (fromL f N) 0 0).shape.length = SO at *
      generalize (itmsA y m' (fromL f N) 0 0).cells.length = CO at *
      have HT := hide (I9.put (.slice b1 SO d1) (.slice b2 CO d2))
      have HFIN : Hid (∀ u v, GivesZ (n + 1) w0 (itmsA y m' (fromL f N) 0 0) w (.returned (.agg #[.slice b1 SO d1, .slice b2 CO d2])) ((w9.setCell ⟨w.heap.size + 1, 0, none⟩ u).setCell ⟨w.heap.size + 1, 1, none⟩ v)) := by
        intro u v
        refine ⟨⟨_, rfl, fun W hW hK => hv W hW ?_⟩, I9.fin u v⟩
        have hs := HSZ.out
        exact (((Keeps.refl _ _).setCell (p := ⟨w.heap.size + 1, 0, none⟩) (by show w.heap.size + 1 < _; omega) u).setCell (p := ⟨w.heap.size + 1, 1, none⟩) (by show w.heap.size + 1 < _; omega) v).trans (hK.mono (by omega))
      clear I9 hv hb9
      go_wp2
      exact bodyPost_ret (v := .agg #[.slice b1 SO d1, .slice b2 CO d2]) (by simp [results, Try.results52, go_sem, HT.out.1, HT.out.2]) rfl (HFIN.out _ _)
end Go.Proofs.Ytmjncdhahdpplaa
namespace Go.Proofs.Ytmjncdhahdpplaa
open Go.ChangeShapes Go.WideShapes Go.ChangeAt Go.RowKit
set_option linter.unusedVariables false
set_option maxRecDepth 100000
/-- What often says. -/
def oftY (x : Ar) (long : Nat) : Int := if 1 < x.shape.length then 6 else if ¬ firstUp (repF x) x.cells.length = 0 then 5 else if x.shape.length = 1 ∧ ¬ (x.cells.length : Int) = (long : Int) then 7 else if 16384 < (oftL x.cells long).length then 12 else 0
def OftZ (x : Ar) (long : Nat) (w : World) (e : Ending) (w' : World) : Prop := (∃ a N c, e = .returned (.tuple #[.slice a N c, .int .i64 (oftY x long)]) ∧ (oftY x long = 0 → N = (oftL x.cells long).length ∧ Row w.heap.size w' a (oftL x.cells long))) ∧ Below w.heap.size w w'
theorem oftZ_err {x : Ar} {long : Nat} {w w' : World} {E : Int} (h : oftY x long = E) (hE : ¬ E = 0) (hb : Below w.heap.size w w') : OftZ x long w (.returned (.tuple #[.slice none 0 0, .int .i64 E])) w' :=
  ⟨⟨none, 0, 0, by rw [h], fun h0 => absurd (h.symm.trans h0) hE⟩, hb⟩
set_option maxHeartbeats 4000000 in
theorem roften_any {n lo long : Nat} {x : Ar} {va : Value} {w0 w : World} (hx : ArIn (n + 1) lo w0 x va) (hb0 : Below w0.heap.size w0 w) (hcx : chkA 8 x = 0) (hlong : long ≤ 16384) :
    Calls Try.prog 87 #[va, .int .i64 (long : Int)] w fun e w' => OftZ x long w e w' := by
  obtain ⟨a1, c1, a2, c2, rfl, R, hc⟩ := hx.form
  obtain ⟨i3, hi3, hz30, hz31, hz32⟩ := infoI3
  obtain ⟨l8, c16⟩ := chk_len hcx
  obtain ⟨ab, cb, hcf⟩ := cells_fn hc
  obtain ⟨W1, e1⟩ : ∃ W1, w.alloc (.cells #[.slice a1 x.shape.length c1, .slice a2 x.cells.length c2] 25) = W1 := ⟨_, rfl⟩
  have B1 : Below w.heap.size w W1 := by rw [← e1]; exact one_alloc _ _
  have z1 : W1.heap.size = w.heap.size + 1 := by rw [← e1]; simp
  have q0 : W1.cell? ⟨w.heap.size, 0, none⟩ = some (.slice a1 x.shape.length c1) := by rw [← e1]; exact cell_new0 _ _ 25 0 _ rfl
  have q1 : W1.cell? ⟨w.heap.size, 1, none⟩ = some (.slice a2 x.cells.length c2) := by rw [← e1]; exact cell_new0 _ _ 25 1 _ rfl
  have HB1 := hide (And.intro B1 z1)
  have HB0 := hide hb0
  have HNB := hide (hb0.trans (B1.mono hb0.size))
  have HCF : Hid (CellsFn n lo w0 x.cells a2 ab cb) := hcf
  have HR := hide R
  have HAT := hide (atom_one hcx)
  have HCK := hide hcx
  have HER : Hid (∀ E w', oftY x long = E → ¬ E = 0 → Below w.heap.size w w' → OftZ x long w (.returned (.tuple #[.slice none 0 0, .int .i64 E])) w') := fun E w' h h1 h2 => oftZ_err h h1 h2
  have HY : Hid (oftY x long = if 1 < x.shape.length then 6 else if ¬ firstUp (repF x) x.cells.length = 0 then 5 else if x.shape.length = 1 ∧ ¬ (x.cells.length : Int) = (long : Int) then 7 else if 16384 < (oftL x.cells long).length then 12 else 0) := rfl
  obtain ⟨SX, hSX⟩ : ∃ SX, x.shape.length = SX := ⟨_, rfl⟩
  obtain ⟨CX, hCX⟩ : ∃ CX, x.cells.length = CX := ⟨_, rfl⟩
  have HSC := hide (And.intro hSX hCX)
  simp only [hSX, hCX] at e1 q0 q1 l8 c16 HY HAT ⊢
  clear R hc hx hb0 hcx hcf B1 z1 hSX hCX
  by_cases hS1 : 1 < SX
  · have HF := hide (HER.out 6 W1 (by rw [HY.out, if_pos hS1]) (by decide) HB1.out.1)
    have hS1z : (1 : Int) < (SX : Int) := by omega
    clear HCF HY HER
    go_enter Try.func87, Try.ntmps87
    go_wp2
    exact bodyPost_ret (v := .tuple #[.slice none 0 0, .int .i64 6]) (by simp [results, Try.results87, go_sem]) rfl HF.out
  have hS1z : ¬ (1 : Int) < (SX : Int) := by omega
  have HY1 : Hid (oftY x long = _) := HY.out.trans (if_neg hS1)
  clear HY
  go_enter Try.func87, Try.ntmps87
  go_wp2
  clear e1
  go_loopg [6] CX (fun g i wr => ∃ t : Nat, g + t = CX ∧ i = .int .i64 (t : Int) ∧ wr = W1 ∧ firstUp (repF x) t = 0)
  case atStart => exact ⟨0, rfl, rfl, rfl, rfl⟩
  case round =>
    obtain ⟨t, hg, rfl, hwr, hfu⟩ := hrel
    have hwr' := hwr.symm
    subst hwr'
    clear hwr
    by_cases hlt : t < CX
    · have hltz : (t : Int) < (CX : Int) := by omega
      obtain ⟨bb, off, rfl, -, hbb, hcells⟩ := HCF.out (by rw [HSC.out.2]; omega)
      obtain ⟨g0, g1, -, -⟩ := hcells t (by rw [HSC.out.2]; exact hlt)
      have u0 := (HNB.out.cell (p := ⟨bb, off + t * 3, none⟩) hbb).trans g0
      have u1 := (HNB.out.cell (p := ⟨bb, off + t * 3 + 1, none⟩) hbb).trans g1
      have HRF : Hid (repF x t = if ¬ (cAt x.cells t).1 = 0 ∨ (cAt x.cells t).2.1 < 0 then 5 else 0) := rfl
      have HUP : Hid (repF x t = 5 → oftY x long = 5) := fun h => by
        rw [HY1.out, if_pos]
        rw [firstUp_hit hfu (by rw [h]; decide) CX hlt, h]; decide
      have HFU := hide hfu
      generalize (cAt x.cells t).1 = kd at *
      generalize (cAt x.cells t).2.1 = NN at *
      clear g0 g1 hcells hbb hfu
      by_cases hbad : ¬ kd = 0 ∨ NN < 0
      · have HF := hide (HER.out 5 W1 (HUP.out (by rw [HRF.out, if_pos hbad])) (by decide) HB1.out.1)
        clear HCF HER HUP HRF
        by_cases hk : kd = 0
        · have hn : NN < 0 := by omega
          rw [hk] at u0
          clear hbad hk
          go_wp2
          exact bodyPost_ret (v := .tuple #[.slice none 0 0, .int .i64 5]) (by simp [results, Try.results87, go_sem]) rfl HF.out
        · have hkb : (kd == 0) = false := by simp [hk]
          clear hbad
          go_wp2
          exact bodyPost_ret (v := .tuple #[.slice none 0 0, .int .i64 5]) (by simp [results, Try.results87, go_sem]) rfl HF.out
      · have HF1 : Hid (firstUp (repF x) (t + 1) = 0) := by unfold Hid; rw [firstUp_step HFU.out, HRF.out, if_neg hbad]
        have hk : kd = 0 := by omega
        have hn : ¬ NN < 0 := by omega
        rw [hk] at u0
        clear hbad hk HUP HRF
        go_wp2
        go_roundg (CX - (t + 1))
        case rel => exact ⟨t + 1, by omega, by go_num, rfl, HF1.out⟩
        case measure => omega
    · have hte : t = CX := by omega
      subst hte
      have HY2 : Hid (oftY x long = if SX = 1 ∧ ¬ (t : Int) = (long : Int) then 7 else if 16384 < (oftL x.cells long).length then 12 else 0) := HY1.out.trans (if_neg (by rw [hfu]; simp))
      have hPos : Hid (∀ i, i < t → 0 ≤ (cAt x.cells i).2.1) := fun i hi => (repF_pos hfu i hi).2
      clear hfu HY1
      by_cases hS : SX = 1
      · obtain ⟨xb, xo, rfl, hxb, hxc⟩ := row_at HR.out (j := 0) (by rw [HSC.out.1]; omega)
        have eg : x.shape[0]?.getD 0 = (t : Int) := by
          have h1 := (chkA_iff 8 x).1 HCK.out
          have h2 := sizeV_prod h1.1
          have h3 := h1.2.1
          have hl := HSC.out.1
          rw [hS] at hl
          obtain ⟨d, hd⟩ : ∃ d, x.shape = [d] := List.length_eq_one_iff.1 hl
          rw [hd] at h2 h3 ⊢
          have : prodL [d] = d := by simp [prodL]
          have h4 := HSC.out.2
          show d = _
          omega
        rw [eg, Nat.add_zero] at hxc
        have u0 := (HNB.out.cell (p := ⟨xb, xo, none⟩) hxb).trans hxc
        have hSb : ((SX : Int) == 1) = true := by simp [hS]
        have hS0 : (0 : Int) < (SX : Int) := by omega
        clear hxc hxb eg
        by_cases hl : (t : Int) = (long : Int)
        · have HY3 : Hid (oftY x long = if 16384 < (oftL x.cells long).length then 12 else 0) := HY2.out.trans (if_neg (by omega))
          have HCP : Hid (0 < long → 0 < t) := fun h => by omega
          have hlb : ((t : Int) == (long : Int)) = true := by simp [hl]
          have HHL := hide hl
          clear hl hS HY2 HAT
          go_upto_region 8 with fail
          go_cut [49] from 38 to 48 (fun s wx => s = .bool false ∧ wx = W1)
          case first =>
            go_wp2
            go_meet
            exact ⟨by first | rfl | simp [HHL.out], rfl⟩
          case rest =>
          obtain ⟨rfl, hwc⟩ := hcut
          have hwc' := hwc.symm
          subst hwc'
          clear hwc hlb u0
          go_wp2
          go_loopg [7, 8] long (fun g mv i wr => ∃ (j : Nat) (a : Option Addr) (c : Nat), g + j = long ∧ i = .int .i64 (j : Int) ∧ mv = .slice a (oftL x.cells j).length c ∧ Below W1.heap.size W1 wr ∧ (oftL x.cells j).length ≤ 16384 ∧ wr.ownsRow W1.heap.size 3 1 (.slice a (oftL x.cells j).length c) (oftL x.cells j).length ((oftL x.cells j).map (Value.int .i64)))
          case atStart => exact ⟨0, none, 0, rfl, rfl, rfl, Below.refl _ _, by simp [oftL], World.ownsRow_nil _ _ _ _⟩
          case round =>
            obtain ⟨j, a0, c0, hg, rfl, rfl, hbw, hL, hown⟩ := hrel
            by_cases hlt : j < long
            · have hltz : (j : Int) < (long : Int) := by omega
              have hCp := HCP.out (by omega)
              have hq : j % t < t := Nat.mod_lt _ hCp
              obtain ⟨b, off, rfl, -, hb, hcells⟩ := HCF.out (by rw [HSC.out.2]; exact hCp)
              obtain ⟨-, g1, -, -⟩ := hcells (j % t) (by rw [HSC.out.2]; exact hq)
              have u1 := (hbw.cell (p := ⟨b, off + j % t * 3 + 1, none⟩) (Nat.lt_of_lt_of_le hb HNB.out.size)).trans ((HNB.out.cell (p := ⟨b, off + j % t * 3 + 1, none⟩) hb).trans g1)
              have r1 := (hbw.cell (p := ⟨w.heap.size, 1, none⟩) (by show w.heap.size < _; have := HB1.out.2; omega)).trans q1
              have HCNT : Hid (oCnt x.cells j = (cAt x.cells (j % t)).2.1) := by unfold Hid oCnt; rw [HSC.out.2]
              have hN0 := hPos.out (j % t) hq
              have htm : (j : Int).tmod (t : Int) = ((j % t : Nat) : Int) := by rw [Int.tmod_eq_emod_of_nonneg (by omega)]; omega
              have hne : ¬ (t : Int) = 0 := by omega
              have hne' : ¬ t = 0 := by omega
              have HBWW : Hid (Below w.heap.size w wr) := HB1.out.1.trans (hbw.mono (by have := HB1.out.2; omega))
              generalize (cAt x.cells (j % t)).2.1 = NN at *
              generalize j % t = q at *
              obtain ⟨L, hLL⟩ : ∃ L, (oftL x.cells j).length = L := ⟨_, rfl⟩
              have HL := hide hLL
              rw [hLL] at hL hown
              simp only [hLL]
              have hqz : (q : Int) < (t : Int) := by omega
              clear hcells g1 hLL hb
              go_wp2
              go_quiet (fail)
              obtain ⟨wq, hwq⟩ : ∃ wq, wr.drewN nq = wq := ⟨_, rfl⟩
              have hbw2 := belowN hbw nq
              have HBW2 := hide (belowN HBWW.out nq)
              have hown2 : (wr.drewN nq).ownsRow W1.heap.size 3 1 (.slice a0 L c0) L ((oftL x.cells j).map (Value.int .i64)) := hown
              rw [hwq] at hbw2 hown2 HBW2 ⊢
              clear hwq hbw hown u1 r1 HBWW htm hne hne' hqz
              by_cases hbig : (16384 : Int) < NN
              · have HF := hide (HER.out 12 wq (by
                  rw [HY3.out, if_pos]
                  have h1 := oftL_mono x.cells (show j + 1 ≤ long by omega)
                  rw [oftL_len, HCNT.out, HL.out] at h1
                  omega) (by decide) HBW2.out)
                clear hown2 hbw2
                go_wp2
                exact bodyPost_ret (v := .tuple #[.slice none 0 0, .int .i64 12]) (by simp [results, Try.results87, go_sem]) rfl HF.out
              · have HIN := hide (And.intro hbw2 hown2)
                have HSTEP : Hid (oftL x.cells (j + 1) = oftL x.cells j ++ List.replicate NN.toNat (j : Int)) := by
                  unfold Hid
                  show oftL x.cells j ++ List.replicate (oCnt x.cells j).toNat (j : Int) = _
                  rw [HCNT.out]
                clear hown2 hbw2
                go_wp2
                go_loopg [7, 10] NN.toNat (fun g mv i wr => ∃ (s : Nat) (a : Option Addr) (c : Nat), g + s = NN.toNat ∧ i = .int .i64 (s : Int) ∧ mv = .slice a (L + s) c ∧ Below W1.heap.size W1 wr ∧ wr.ownsRow W1.heap.size 3 1 (.slice a (L + s) c) (L + s) ((oftL x.cells j ++ List.replicate s (j : Int)).map (Value.int .i64)))
                case atStart => exact ⟨0, _, _, rfl, rfl, rfl, HIN.out.1, by simpa using HIN.out.2⟩
                case round =>
                  clear HIN HBW2
                  obtain ⟨s, a5, c5, hgt, rfl, rfl, hbq, hownq⟩ := hrel
                  by_cases htl : s < NN.toNat
                  · have htN : (s : Int) < NN := by omega
                    obtain ⟨V1, e1⟩ : ∃ V1, wr.alloc (.cells #[.int .i64 (j : Int)] 3) = V1 := ⟨_, rfl⟩
                    have B1 : Below wr.heap.size wr V1 := by rw [← e1]; exact one_alloc _ _
                    have HOWN : Hid (V1.ownsRow W1.heap.size 3 1 (.slice a5 (L + s) c5) (L + s) ((oftL x.cells j ++ List.replicate s (j : Int)).map (Value.int .i64))) := by rw [← e1]; exact hownq.alloc _
                    have HLI : Hid (Lies V1 (some ⟨wr.heap.size, 0, none⟩) [.int .i64 (j : Int)]) := by
                      have : Row 0 V1 (some ⟨wr.heap.size, 0, none⟩) [(j : Int)] := by rw [← e1]; exact row_one (by simp) (Nat.zero_le _) (cell_new0 wr _ 3 0 _ rfl)
                      exact this.lies
                    have HBW : Hid (Below W1.heap.size W1 V1) := hbq.trans (B1.mono hbq.size)
                    clear hownq hbq B1
                    go_wp2_with (at_builtin; refine wpList_append_any rfl _ _ 22 rfl W1.heap.size 3 i3 (.int .i64 0) 1 8 Try.underlying22 hi3 hz30 hz31 hz32 rfl (by decide) _ (L + s) _ rfl HOWN.out (some ⟨wr.heap.size, 0, none⟩) 1 1 [.int .i64 (j : Int)] rfl rfl HLI.out ?c3 ?c4 HBW.out.size ?_)
                    case c3 => unfold maxLen; omega
                    case c4 => omega
                    intro v' w5 hown5 hb5
                    obtain ⟨a6, c6, rfl⟩ : ∃ a c, v' = .slice a (L + (s + 1)) c := by obtain ⟨a, c, h, -⟩ := owns_cap hown5; exact ⟨a, c, h⟩
                    have HF : Hid (Below W1.heap.size W1 w5 ∧ w5.ownsRow W1.heap.size 3 1 (.slice a6 (L + (s + 1)) c6) (L + (s + 1)) ((oftL x.cells j ++ List.replicate (s + 1) (j : Int)).map (Value.int .i64))) := ⟨HBW.out.trans hb5, by
                      have e : (oftL x.cells j ++ List.replicate (s + 1) (j : Int)).map (Value.int .i64) = (oftL x.cells j ++ List.replicate s (j : Int)).map (Value.int .i64) ++ [.int .i64 (j : Int)] := by simp [List.replicate_succ']
                      rw [e]; simp only [List.map_append, List.map_replicate, List.append_assoc]; exact hown5⟩
                    clear hown5 hb5 HOWN HLI HBW e1
                    go_wp2
                    go_roundg (NN.toNat - (s + 1))
                    case rel => exact ⟨s + 1, _, _, by omega, by go_num, rfl, HF.out.1, HF.out.2⟩
                    case measure => omega
                  · have hte : ¬ (s : Int) < NN := by omega
                    have hteq : s = NN.toNat := by omega
                    have hlen1 : (oftL x.cells (j + 1)).length = L + s := by rw [HSTEP.out, ← hteq, List.length_append, List.length_replicate, HL.out]
                    by_cases hb2 : 16384 < L + s
                    · have HF := hide (HER.out 12 wr (by
                        rw [HY3.out, if_pos]
                        have h1 := oftL_mono x.cells (show j + 1 ≤ long by omega)
                        omega) (by decide) (HB1.out.1.trans (hbq.mono (by have := HB1.out.2; omega))))
                      have hb2z : (16384 : Int) < (L : Int) + (s : Int) := by omega
                      clear hbq hownq hteq
                      go_wp2
                      exact bodyPost_ret (v := .tuple #[.slice none 0 0, .int .i64 12]) (by simp [results, Try.results87, go_sem]) rfl HF.out
                    · have HF : Hid (Below W1.heap.size W1 wr ∧ (oftL x.cells (j + 1)).length ≤ 16384 ∧ wr.ownsRow W1.heap.size 3 1 (.slice a5 (L + s) c5) (oftL x.cells (j + 1)).length ((oftL x.cells (j + 1)).map (Value.int .i64)) ∧ (oftL x.cells (j + 1)).length = L + s) := by
                        refine ⟨hbq, by omega, ?_, hlen1⟩
                        rw [hlen1, HSTEP.out, ← hteq]; exact hownq
                      have hb2z : ¬ (16384 : Int) < (L : Int) + (s : Int) := by omega
                      clear hbq hownq hteq hlen1
                      go_wp2
                      go_roundg (long - (j + 1))
                      case rel => exact ⟨j + 1, _, _, by omega, by go_num, by rw [HF.out.2.2.2], HF.out.1, HF.out.2.1, by rw [HF.out.2.2.2] at *; exact HF.out.2.2.1⟩
                      case measure => omega
            · have hje : j = long := by omega
              subst hje
              have hY0 : oftY x j = 0 := by rw [HY3.out, if_neg (by omega)]
              obtain ⟨a, cap, he, RW⟩ := owns_rowE (oftL x.cells j) (by omega) hown
              simp only [Value.slice.injEq, true_and] at he
              obtain ⟨rfl, rfl⟩ := he
              have HF : Hid (OftZ x j w (.returned (.tuple #[.slice a0 (oftL x.cells j).length c0, .int .i64 0])) wr) := ⟨⟨_, _, _, by rw [hY0], fun _ => ⟨rfl, RW.low (by have := HB1.out.2; omega)⟩⟩, HB1.out.1.trans (hbw.mono (by have := HB1.out.2; omega))⟩
              clear hown RW hbw hY0
              generalize (oftL x.cells j).length = L at *
              go_wp2
              exact bodyPost_ret (v := .tuple #[.slice a0 L c0, .int .i64 0]) (by simp [results, Try.results87, go_sem]) rfl HF.out
        · have HF := hide (HER.out 7 W1 (by rw [HY2.out, if_pos ⟨hS, hl⟩]) (by decide) HB1.out.1)
          have hlb : ((t : Int) == (long : Int)) = false := by simp [hl]
          clear HCF HER HY2 hS
          go_wp2
          exact bodyPost_ret (v := .tuple #[.slice none 0 0, .int .i64 7]) (by simp [results, Try.results87, go_sem]) rfl HF.out
      · have hSb : ((SX : Int) == 1) = false := by simp; omega
        have HY3 : Hid (oftY x long = if 16384 < (oftL x.cells long).length then 12 else 0) := HY2.out.trans (if_neg (fun h => hS h.1))
        have HCP : Hid (0 < long → 0 < t) := fun _ => by have := (HAT.out (by omega)).2; omega
        clear hS HY2 HAT
        go_wp2
        go_loopg [7, 8] long (fun g mv i wr => ∃ (j : Nat) (a : Option Addr) (c : Nat), g + j = long ∧ i = .int .i64 (j : Int) ∧ mv = .slice a (oftL x.cells j).length c ∧ Below W1.heap.size W1 wr ∧ (oftL x.cells j).length ≤ 16384 ∧ wr.ownsRow W1.heap.size 3 1 (.slice a (oftL x.cells j).length c) (oftL x.cells j).length ((oftL x.cells j).map (Value.int .i64)))
        case atStart => exact ⟨0, none, 0, rfl, rfl, rfl, Below.refl _ _, by simp [oftL], World.ownsRow_nil _ _ _ _⟩
        case round =>
          obtain ⟨j, a0, c0, hg, rfl, rfl, hbw, hL, hown⟩ := hrel
          by_cases hlt : j < long
          · have hltz : (j : Int) < (long : Int) := by omega
            have hCp := HCP.out (by omega)
            have hq : j % t < t := Nat.mod_lt _ hCp
            obtain ⟨b, off, rfl, -, hb, hcells⟩ := HCF.out (by rw [HSC.out.2]; exact hCp)
            obtain ⟨-, g1, -, -⟩ := hcells (j % t) (by rw [HSC.out.2]; exact hq)
            have u1 := (hbw.cell (p := ⟨b, off + j % t * 3 + 1, none⟩) (Nat.lt_of_lt_of_le hb HNB.out.size)).trans ((HNB.out.cell (p := ⟨b, off + j % t * 3 + 1, none⟩) hb).trans g1)
            have r1 := (hbw.cell (p := ⟨w.heap.size, 1, none⟩) (by show w.heap.size < _; have := HB1.out.2; omega)).trans q1
            have HCNT : Hid (oCnt x.cells j = (cAt x.cells (j % t)).2.1) := by unfold Hid oCnt; rw [HSC.out.2]
            have hN0 := hPos.out (j % t) hq
            have htm : (j : Int).tmod (t : Int) = ((j % t : Nat) : Int) := by rw [Int.tmod_eq_emod_of_nonneg (by omega)]; omega
            have hne : ¬ (t : Int) = 0 := by omega
            have hne' : ¬ t = 0 := by omega
            have HBWW : Hid (Below w.heap.size w wr) := HB1.out.1.trans (hbw.mono (by have := HB1.out.2; omega))
            generalize (cAt x.cells (j % t)).2.1 = NN at *
            generalize j % t = q at *
            obtain ⟨L, hLL⟩ : ∃ L, (oftL x.cells j).length = L := ⟨_, rfl⟩
            have HL := hide hLL
            rw [hLL] at hL hown
            simp only [hLL]
            have hqz : (q : Int) < (t : Int) := by omega
            clear hcells g1 hLL hb
            go_wp2
            go_quiet (fail)
            obtain ⟨wq, hwq⟩ : ∃ wq, wr.drewN nq = wq := ⟨_, rfl⟩
            have hbw2 := belowN hbw nq
            have HBW2 := hide (belowN HBWW.out nq)
            have hown2 : (wr.drewN nq).ownsRow W1.heap.size 3 1 (.slice a0 L c0) L ((oftL x.cells j).map (Value.int .i64)) := hown
            rw [hwq] at hbw2 hown2 HBW2 ⊢
            clear hwq hbw hown u1 r1 HBWW htm hne hne' hqz
            by_cases hbig : (16384 : Int) < NN
            · have HF := hide (HER.out 12 wq (by
                rw [HY3.out, if_pos]
                have h1 := oftL_mono x.cells (show j + 1 ≤ long by omega)
                rw [oftL_len, HCNT.out, HL.out] at h1
                omega) (by decide) HBW2.out)
              clear hown2 hbw2
              go_wp2
              exact bodyPost_ret (v := .tuple #[.slice none 0 0, .int .i64 12]) (by simp [results, Try.results87, go_sem]) rfl HF.out
            · have HIN := hide (And.intro hbw2 hown2)
              have HSTEP : Hid (oftL x.cells (j + 1) = oftL x.cells j ++ List.replicate NN.toNat (j : Int)) := by
                unfold Hid
                show oftL x.cells j ++ List.replicate (oCnt x.cells j).toNat (j : Int) = _
                rw [HCNT.out]
              clear hown2 hbw2
              go_wp2
              go_loopg [7, 10] NN.toNat (fun g mv i wr => ∃ (s : Nat) (a : Option Addr) (c : Nat), g + s = NN.toNat ∧ i = .int .i64 (s : Int) ∧ mv = .slice a (L + s) c ∧ Below W1.heap.size W1 wr ∧ wr.ownsRow W1.heap.size 3 1 (.slice a (L + s) c) (L + s) ((oftL x.cells j ++ List.replicate s (j : Int)).map (Value.int .i64)))
              case atStart => exact ⟨0, _, _, rfl, rfl, rfl, HIN.out.1, by simpa using HIN.out.2⟩
              case round =>
                clear HIN HBW2
                obtain ⟨s, a5, c5, hgt, rfl, rfl, hbq, hownq⟩ := hrel
                by_cases htl : s < NN.toNat
                · have htN : (s : Int) < NN := by omega
                  obtain ⟨V1, e1⟩ : ∃ V1, wr.alloc (.cells #[.int .i64 (j : Int)] 3) = V1 := ⟨_, rfl⟩
                  have B1 : Below wr.heap.size wr V1 := by rw [← e1]; exact one_alloc _ _
                  have HOWN : Hid (V1.ownsRow W1.heap.size 3 1 (.slice a5 (L + s) c5) (L + s) ((oftL x.cells j ++ List.replicate s (j : Int)).map (Value.int .i64))) := by rw [← e1]; exact hownq.alloc _
                  have HLI : Hid (Lies V1 (some ⟨wr.heap.size, 0, none⟩) [.int .i64 (j : Int)]) := by
                    have : Row 0 V1 (some ⟨wr.heap.size, 0, none⟩) [(j : Int)] := by rw [← e1]; exact row_one (by simp) (Nat.zero_le _) (cell_new0 wr _ 3 0 _ rfl)
                    exact this.lies
                  have HBW : Hid (Below W1.heap.size W1 V1) := hbq.trans (B1.mono hbq.size)
                  clear hownq hbq B1
                  go_wp2_with (at_builtin; refine wpList_append_any rfl _ _ 22 rfl W1.heap.size 3 i3 (.int .i64 0) 1 8 Try.underlying22 hi3 hz30 hz31 hz32 rfl (by decide) _ (L + s) _ rfl HOWN.out (some ⟨wr.heap.size, 0, none⟩) 1 1 [.int .i64 (j : Int)] rfl rfl HLI.out ?c3 ?c4 HBW.out.size ?_)
                  case c3 => unfold maxLen; omega
                  case c4 => omega
                  intro v' w5 hown5 hb5
                  obtain ⟨a6, c6, rfl⟩ : ∃ a c, v' = .slice a (L + (s + 1)) c := by obtain ⟨a, c, h, -⟩ := owns_cap hown5; exact ⟨a, c, h⟩
                  have HF : Hid (Below W1.heap.size W1 w5 ∧ w5.ownsRow W1.heap.size 3 1 (.slice a6 (L + (s + 1)) c6) (L + (s + 1)) ((oftL x.cells j ++ List.replicate (s + 1) (j : Int)).map (Value.int .i64))) := ⟨HBW.out.trans hb5, by
                    have e : (oftL x.cells j ++ List.replicate (s + 1) (j : Int)).map (Value.int .i64) = (oftL x.cells j ++ List.replicate s (j : Int)).map (Value.int .i64) ++ [.int .i64 (j : Int)] := by simp [List.replicate_succ']
                    rw [e]; simp only [List.map_append, List.map_replicate, List.append_assoc]; exact hown5⟩
                  clear hown5 hb5 HOWN HLI HBW e1
                  go_wp2
                  go_roundg (NN.toNat - (s + 1))
                  case rel => exact ⟨s + 1, _, _, by omega, by go_num, rfl, HF.out.1, HF.out.2⟩
                  case measure => omega
                · have hte : ¬ (s : Int) < NN := by omega
                  have hteq : s = NN.toNat := by omega
                  have hlen1 : (oftL x.cells (j + 1)).length = L + s := by rw [HSTEP.out, ← hteq, List.length_append, List.length_replicate, HL.out]
                  by_cases hb2 : 16384 < L + s
                  · have HF := hide (HER.out 12 wr (by
                      rw [HY3.out, if_pos]
                      have h1 := oftL_mono x.cells (show j + 1 ≤ long by omega)
                      omega) (by decide) (HB1.out.1.trans (hbq.mono (by have := HB1.out.2; omega))))
                    have hb2z : (16384 : Int) < (L : Int) + (s : Int) := by omega
                    clear hbq hownq hteq
                    go_wp2
                    exact bodyPost_ret (v := .tuple #[.slice none 0 0, .int .i64 12]) (by simp [results, Try.results87, go_sem]) rfl HF.out
                  · have HF : Hid (Below W1.heap.size W1 wr ∧ (oftL x.cells (j + 1)).length ≤ 16384 ∧ wr.ownsRow W1.heap.size 3 1 (.slice a5 (L + s) c5) (oftL x.cells (j + 1)).length ((oftL x.cells (j + 1)).map (Value.int .i64)) ∧ (oftL x.cells (j + 1)).length = L + s) := by
                      refine ⟨hbq, by omega, ?_, hlen1⟩
                      rw [hlen1, HSTEP.out, ← hteq]; exact hownq
                    have hb2z : ¬ (16384 : Int) < (L : Int) + (s : Int) := by omega
                    clear hbq hownq hteq hlen1
                    go_wp2
                    go_roundg (long - (j + 1))
                    case rel => exact ⟨j + 1, _, _, by omega, by go_num, by rw [HF.out.2.2.2], HF.out.1, HF.out.2.1, by rw [HF.out.2.2.2] at *; exact HF.out.2.2.1⟩
                    case measure => omega
          · have hje : j = long := by omega
            subst hje
            have hY0 : oftY x j = 0 := by rw [HY3.out, if_neg (by omega)]
            obtain ⟨a, cap, he, RW⟩ := owns_rowE (oftL x.cells j) (by omega) hown
            simp only [Value.slice.injEq, true_and] at he
            obtain ⟨rfl, rfl⟩ := he
            have HF : Hid (OftZ x j w (.returned (.tuple #[.slice a0 (oftL x.cells j).length c0, .int .i64 0])) wr) := ⟨⟨_, _, _, by rw [hY0], fun _ => ⟨rfl, RW.low (by have := HB1.out.2; omega)⟩⟩, HB1.out.1.trans (hbw.mono (by have := HB1.out.2; omega))⟩
            clear hown RW hbw hY0
            generalize (oftL x.cells j).length = L at *
            go_wp2
            exact bodyPost_ret (v := .tuple #[.slice a0 L c0, .int .i64 0]) (by simp [results, Try.results87, go_sem]) rfl HF.out
end Go.Proofs.Ytmjncdhahdpplaa
namespace Go.Proofs.Ytmjncdhahdpplaa
open Go.ChangeShapes Go.WideShapes Go.ChangeAt Go.RowKit
set_option linter.unusedVariables false
set_option maxRecDepth 100000
set_option maxHeartbeats 4000000 in
theorem rlisted_row {n lo : Nat} {x : Ar} {a1 a2 : Option Addr} {c1 c2 : Nat} {w0 w : World} (hx : ArIn (n + 1) lo w0 x (.agg #[.slice a1 x.shape.length c1, .slice a2 x.cells.length c2])) (hb0 : Below w0.heap.size w0 w) (hcap : x.shape.length ≤ c1) : Calls Try.prog 21 #[.agg #[.slice a1 x.shape.length c1, .slice a2 x.cells.length c2]] w fun e w' => LstIs w0 x a2 c2 w e w' := by
  have R : Row lo w0 a1 x.shape := by
    obtain ⟨b1, e1, b2, e2, hv, R, -⟩ := hx.form
    simp only [Value.agg.injEq, Array.mk.injEq, List.cons.injEq, Value.slice.injEq, and_true] at hv
    obtain ⟨⟨rfl, -, rfl⟩, -⟩ := hv
    exact R
  have HRW := hide R
  have I := in2_new w (.slice a1 x.shape.length c1) (.slice a2 x.cells.length c2)
  obtain ⟨W2, e2⟩ : ∃ W2, (w.alloc (.cells #[.slice a1 x.shape.length c1, .slice a2 x.cells.length c2] 25)).alloc (.cells #[.slice none 0 0, .slice none 0 0] 25) = W2 := ⟨_, rfl⟩
  have hz2 : W2.heap.size = w.heap.size + 2 := by rw [← e2]; simp
  have hf0 : W2.frozen? ⟨w.heap.size, 0, none⟩ = false := by
    rw [← e2]
    exact ((one_alloc (w.alloc (.cells #[.slice a1 x.shape.length c1, .slice a2 x.cells.length c2] 25)) _).frozen (p := ⟨w.heap.size, 0, none⟩) (by simp)).trans (frozen_new w _ 25 0)
  rw [e2] at I
  have q0 := I.q0
  have q1 := I.q1
  have HX := hide (And.intro hx hcap)
  by_cases h0 : x.shape.length = 0
  · have HE : Hid (lstA x = .mk [1] x.cells) := by unfold Hid lstA; rw [if_pos h0]
    obtain ⟨W3, e3⟩ : ∃ W3, W2.alloc (.cells #[.int .i64 1] 3) = W3 := ⟨_, rfl⟩
    have B3 : Below W2.heap.size W2 W3 := by rw [← e3]; exact one_alloc _ _
    have z3 : W3.heap.size = w.heap.size + 3 := by rw [← e3]; simp [hz2]
    have o0 : W3.cell? ⟨w.heap.size + 2, 0, none⟩ = some (.int .i64 1) := by rw [← e3, ← hz2]; exact cell_new0 W2 _ 3 0 _ rfl
    have I3 := I.next B3
    have s0 : W3.cell? ⟨w.heap.size, 0, none⟩ = some (.slice a1 x.shape.length c1) := I3.q0
    have s1 : W3.cell? ⟨w.heap.size, 1, none⟩ = some (.slice a2 x.cells.length c2) := I3.q1
    have g0 := I3.p0
    have g1 := I3.p1
    have gf0 := I3.f0
    have gf1 := I3.f1
    have HT := hide (set_two g0 g1 (.slice (some ⟨w.heap.size + 2, 0, none⟩) 1 1) (.slice a2 x.cells.length c2))
    have HF : Hid (∀ u v, LstIs w0 x a2 c2 w (.returned (.agg #[.slice (some ⟨w.heap.size + 2, 0, none⟩) 1 1, .slice a2 x.cells.length c2])) ((W3.setCell ⟨w.heap.size + 1, 0, none⟩ u).setCell ⟨w.heap.size + 1, 1, none⟩ v)) := by
      intro u v
      have B4 : Below w.heap.size w W3 := I3.bel
      have el : (lstA x).shape = [1] := by rw [HE.out]; rfl
      refine ⟨⟨some ⟨w.heap.size + 2, 0, none⟩, 1, by rw [el]; rfl, by rw [el]; exact Nat.le_refl _, fun W hW hK => ?_⟩, (B4.setCell (p := ⟨w.heap.size + 1, 0, none⟩) (by show _ ≤ w.heap.size + 1; omega) _).setCell (p := ⟨w.heap.size + 1, 1, none⟩) (by show _ ≤ w.heap.size + 1; omega) _⟩
      have K := (keeps_two W3 w.heap.size u v).trans (hK.mono (show w.heap.size ≤ w.heap.size + 2 by omega))
      have o1 := (K.cell (p := ⟨w.heap.size + 2, 0, none⟩) (Nat.le_refl _) (by show w.heap.size + 2 < _; omega)).trans o0
      have hk := K.1
      rw [el]
      exact row_one (by omega) (Nat.zero_le _) o1
    clear hx R hb0 hcap B3 z3 I I3 o0 HX hf0 HRW
    simp only [h0] at q0 e2 ⊢
    clear h0
    generalize x.cells.length = CA at *
    go_enter Try.func21, Try.ntmps21
    go_wp2
    exact bodyPost_ret (v := .agg #[.slice (some ⟨w.heap.size + 2, 0, none⟩) 1 1, .slice a2 CA c2]) (by simp [results, Try.results21, go_sem, HT.out.1, HT.out.2]) rfl (HF.out _ _)
  · have HE : Hid (lstA x = x) := by unfold Hid lstA; rw [if_neg h0]
    have p0 := I.p0
    have p1 := I.p1
    have f0 := I.f0
    have f1 := I.f1
    have HT := hide (I.put (.slice a1 x.shape.length c1) (.slice a2 x.cells.length c2))
    have HF : Hid (∀ u v, LstIs w0 x a2 c2 w (.returned (.agg #[.slice a1 x.shape.length c1, .slice a2 x.cells.length c2])) ((W2.setCell ⟨w.heap.size + 1, 0, none⟩ u).setCell ⟨w.heap.size + 1, 1, none⟩ v)) := fun u v => ⟨⟨a1, c1, by rw [HE.out], by rw [HE.out]; exact HX.out.2, fun W hW _ => by rw [HE.out]; exact (HRW.out.next hW).low (Nat.zero_le _)⟩, I.fin u v⟩
    have hSb : ((x.shape.length : Int) == 0) = false := by simp; exact fun h => h0 (by rw [h]; rfl)
    clear hx R hb0 hcap I h0 HX HRW
    generalize x.cells.length = CA at *
    generalize x.shape.length = SA at *
    go_enter Try.func21, Try.ntmps21
    go_wp2
    exact bodyPost_ret (v := .agg #[.slice a1 SA c1, .slice a2 CA c2]) (by simp [results, Try.results21, go_sem, HT.out.1, HT.out.2]) rfl (HF.out _ _)
theorem sizeV_pos {l : List Int} (h : 0 < sizeV l) : sizeV l = prodL l := by
  unfold sizeV at h ⊢
  split
  · rename_i g; rw [if_pos g] at h; omega
  · rfl
/-- Where the cell at a number of an array along an axis comes from, by places. -/
theorem rep_place {y : Ar} (hy : chkA 8 y = 0) {k D : Nat} (hk : k < y.shape.length) (hD : gI y.shape k = (D : Int)) {l : List Int} (hl : ∀ i, i < l.length → 0 ≤ gI l i ∧ gI l i < (D : Int)) (hs : sizeE (y.shape.set k (l.length : Int)) = 0) {t : Nat} (ht : (t : Int) < sizeV (y.shape.set k (l.length : Int))) :
    ∃ a v : Nat, a < l.length ∧ gI (digits (y.shape.set k (l.length : Int)) (t : Int)) k = (a : Int) ∧ gI l a = (v : Int) ∧ plcV y.shape ((digits (y.shape.set k (l.length : Int)) (t : Int)).set k (v : Int)) = ((alongQ D (sizeV (y.shape.drop (k + 1))).toNat l.length (fun i => (gI l i).toNat) t : Nat) : Int) ∧ alongQ D (sizeV (y.shape.drop (k + 1))).toNat l.length (fun i => (gI l i).toNat) t < y.cells.length := by
  obtain ⟨-, hpos, hpr, -⟩ := sizeV_in hs (show (0 : Int) ≤ (t : Int) by omega) ht
  have hL : 0 < l.length := by have := hpos (l.length : Int) (mem_set_self' hk _); omega
  have hD0 : 0 < D := by have := hl 0 hL; omega
  obtain ⟨A, D', w, hD', hw, hw0, -, -, hcl, -⟩ := along_facts hy hk hs (fun _ => by omega) (by omega)
  obtain rfl : D' = D := by omega
  obtain ⟨x, a, b, w', hw', -, ha, hb, hi, hg, hpl, hin⟩ := axis_place (s := y.shape) (k := k) (L := l.length) hk hpos (i := t) (by rw [← hpr]; exact ht)
  obtain rfl : w' = w := by have := sizeV_pos (l := y.shape.drop (k + 1)) (by omega); omega
  obtain ⟨hv0, hv1⟩ := hl a ha
  obtain ⟨v, hv⟩ : ∃ v : Nat, gI l a = (v : Int) := ⟨(gI l a).toNat, by omega⟩
  have hset : y.shape.set k (D' : Int) = y.shape := by rw [← hD]; exact set_gI _ _ hk
  have hin' := hin D' v (by omega)
  have hpl' := hpl D' v
  rw [hset] at hin' hpl'
  have hq : alongQ D' w' l.length (fun i => (gI l i).toNat) t = x * (D' * w') + v * w' + b := by rw [hi, alongQ_at _ _ _ _ _ _ _ ha hb, hv, Int.toNat_natCast]
  rw [hw, Int.toNat_natCast, hq]
  have hbd := (place_bound hin').2.2.1
  obtain ⟨h1, h2, -⟩ := (chkA_iff 8 y).1 hy
  have hsx := sizeV_prod h1
  refine ⟨a, v, ha, hg, hv, by rw [(plc_of h1 hin').1, hpl'], ?_⟩
  rw [hpl'] at hbd
  omega
end Go.Proofs.Ytmjncdhahdpplaa
