/-
  The contract of readNumber: the number at a place, where it ends, or that it does not fit.
-/
import Derived.Test.YtljanfmmhglpiaaDoorLxF
import Derived.Laws.Concat
namespace Go.Proofs.YtljanfmmhglpiaaDoor
open Go.ChangeShapes Go.WideShapes Go.ChangeAt Go.RowKit
open Rn (Byte)
set_option maxRecDepth 100000
set_option linter.unusedVariables false
set_option linter.unusedSimpArgs false
theorem str_size (l : List Int) : (strOfNums l).size = l.length := by
  have h : (strOfNums l).data.toList.length = (Lib.bytesOf l).length := by rw [← Lib.strOfNums_toList, Lib.toList_data]
  simpa [Lib.bytesOf] using h
theorem str_data (l : List Int) : (strOfNums l).data.toList = Lib.bytesOf l := by rw [← Lib.strOfNums_toList, Lib.toList_data]
/-- The sign of a number below 0 stands there or not. -/
theorem off_at {B : List Int} {a : Nat} (ha : a < B.length) : offM (B.drop a) = if B[a]?.getD 0 = 45 then 1 else 0 := by
  rw [drop_cons ha]
  generalize B[a]?.getD 0 = c
  unfold offM
  rw [hasP_min]
  by_cases hc : c = 45
  · subst hc; simp
  · simp [hc]
set_option maxHeartbeats 4000000 in
theorem num32_walk {w : World} {b C L a D E : Nat} {B : List Int} {v : Int} {ok : Bool} (hT : Txt w b B) (hL : B.length = L) (hC : L ≤ C) (haL : a < L)
    (hD : (D = a ∧ ¬ B[a]?.getD 0 = 45) ∨ (D = a + 1 ∧ B[a]?.getD 0 = 45)) (hDL : D ≤ L) (hE : D + lead dgB (B.drop D) = E) (hEL : E ≤ L)
    (hP : ∀ W, Below w.heap.size w W → Calls Tryd.prog 43 #[.string (strOfNums ((B.drop a).take (E - a))), .int .i64 10, .int .i64 64] W fun e w' => GivesP v ok W e w') :
    Calls Tryd.prog 32 #[.slice (some ⟨b, 0, none⟩) L C, .int .i64 (a : Int)] w fun e w' => e = .returned (.tuple #[.int .i64 (if ok then v else 0), .int .i64 (E : Int), .int .i64 (if ok then 0 else 2)]) ∧ Below w.heap.size w w' := by
  have hlen := hT.len
  rw [hL] at hlen
  have hc := hT.cell a (by omega)
  have HRE := hide (reachD (C := C) hT hL D hDL)
  rw [hE] at HRE
  have hDE : a ≤ D := by omega
  have hDE2 : D ≤ E := by omega
  have sl2 := fun W => part_lh (P := Tryd.prog) Tryd.underlying45 sz5 (some ⟨b, 0, none⟩) L C a E (a : Int) (E : Int) rfl rfl (by omega) (by omega) W
  have HSTR := hide (fun W (h : Below w.heap.size w W) => str_of (c := C - a) ((hT.next h).part a C (by omega) (by omega) (E - a) (by omega)) (by rw [List.length_take, List.length_drop]; omega))
  have HP := hide hP
  generalize subA (some ⟨b, 0, none⟩) a C 1 = P2 at *
  generalize strOfNums ((B.drop a).take (E - a)) = SS at *
  generalize E - a = M at *
  generalize C - a = K at *
  clear hT hL hP hE
  rcases hD with ⟨hDa, h45⟩ | ⟨hDa, h45⟩
  · subst hDa
    generalize B[D]?.getD 0 = c at *
    have h45' : (c == 45) = false := beq_eq_false_iff_ne.2 h45
    clear h45 hDE
    go_enter Tryd.func32, Tryd.ntmps32
    go_wp2_with fail
    refine HRE.out.mono ?_
    rintro e w0 ⟨rfl, hb0⟩
    have hstr := HSTR.out _ hb0
    clear HRE HSTR
    go_wp2_with fail
    refine (HP.out _ hb0).mono ?_
    rintro e w1 ⟨⟨r, v', rfl, hr⟩, hb1⟩
    have HB2 := hide (hb0.trans (hb1.mono hb0.size))
    clear HP hb1 hb0
    cases ok with
    | true =>
      obtain ⟨rfl, rfl⟩ : r = .nilIface ∧ v' = v := by simpa using hr
      go_wp2
      go_ret3
      exact ⟨rfl, HB2.out⟩
    | false =>
      obtain ⟨t, q, rfl⟩ : ∃ t q, r = .iface t q := by simpa using hr
      clear hr
      go_wp2
      go_ret3
      exact ⟨rfl, HB2.out⟩
  · rw [h45] at hc
    clear h45
    subst hDa
    have HRE' : Hid (Calls Tryd.prog 16 #[.slice (some ⟨b, 0, none⟩) L C, .int .i64 ((a : Int) + 1), .func (.func 31) #[] #[]] w fun e w' => e = .returned (.int .i64 ((E : Nat) : Int)) ∧ Below w.heap.size w w') := HRE.out
    clear HRE
    go_enter Tryd.func32, Tryd.ntmps32
    go_wp2_with fail
    refine HRE'.out.mono ?_
    rintro e w0 ⟨rfl, hb0⟩
    have hstr := HSTR.out _ hb0
    clear HRE' HSTR
    go_wp2_with fail
    refine (HP.out _ hb0).mono ?_
    rintro e w1 ⟨⟨r, v', rfl, hr⟩, hb1⟩
    have HB2 := hide (hb0.trans (hb1.mono hb0.size))
    clear HP hb1 hb0
    cases ok with
    | true =>
      obtain ⟨rfl, rfl⟩ : r = .nilIface ∧ v' = v := by simpa using hr
      go_wp2
      go_ret3
      exact ⟨rfl, HB2.out⟩
    | false =>
      obtain ⟨t, q, rfl⟩ : ∃ t q, r = .iface t q := by simpa using hr
      clear hr
      go_wp2
      go_ret3
      exact ⟨rfl, HB2.out⟩
/-- readNumber. -/
theorem readnum32 {w : World} {b C L : Nat} {B : List Int} (hT : Txt w b B) (G : Glb w) (hL : B.length = L) (hC : L ≤ C) (a : Nat) {v : Int} (hn : numB v (B.drop a) = true) :
    Calls Tryd.prog 32 #[.slice (some ⟨b, 0, none⟩) L C, .int .i64 (a : Int)] w fun e w' => e = .returned (.tuple #[.int .i64 (if fits (numV (B.drop a)) then numV (B.drop a) else 0), .int .i64 ((a + numE (B.drop a) : Nat) : Int), .int .i64 (if fits (numV (B.drop a)) then 0 else 2)]) ∧ Below w.heap.size w w' := by
  have hk := numE_pos hn
  rw [List.length_drop] at hk
  have haL : a < B.length := by omega
  have hE : a + offM (B.drop a) + lead dgB (B.drop (a + offM (B.drop a))) = a + numE (B.drop a) := by
    unfold numE
    rw [List.drop_drop]
    omega
  have hlen := hT.len
  have ho := off_at haL
  refine num32_walk (D := a + offM (B.drop a)) hT hL hC (by omega) ?_ (by omega) hE (by omega) ?_
  · by_cases h : B[a]?.getD 0 = 45
    · right; rw [ho, if_pos h]; exact ⟨rfl, h⟩
    · left; rw [ho, if_neg h]; exact ⟨rfl, h⟩
  · intro W hW
    rw [show a + numE (B.drop a) - a = numE (B.drop a) by omega, sgnL_take]
    refine parse43 (G.nx hW) hn _ (str_data _) ?_
    rw [str_size, ← sgnL_take, List.length_take, List.length_drop]
    omega
end Go.Proofs.YtljanfmmhglpiaaDoor
