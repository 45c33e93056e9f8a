/-
  The contract of readNumber: the number at a place, where it ends, or that it does not fit.
-/
import Derived.Test.YtnndnjffnkhpdaaDoorLxF
import Derived.Laws.Concat
namespace Go.Proofs.YtnndnjffnkhpdaaDoor
open Go.ChangeShapes Go.WideShapes Go.ChangeAt Go.RowKit
open Rn (Byte)
set_option maxRecDepth 100000
set_option linter.unusedVariables false
set_option linter.unusedSimpArgs false
theorem str_size (l : List Int) : (strOfNums l).size = l.length := by
  have h : (strOfNums l).data.toList.length = (Lib.bytesOf l).length := by rw [← Lib.strOfNums_toList, Lib.toList_data]
  simpa [Lib.bytesOf] using h
theorem lead_same {p : Int → Bool} {B : List Int} {j E : Nat} (h : j + lead p (B.drop j) = E) (h0 : lead p (B.drop j) = 0) : j = E := by omega
set_option maxHeartbeats 4000000 in
theorem num33_loop {w : World} {b C L a D E : Nat} {B : List Int} {sg : ByteArray} {v : Int} {ok pb : Bool} (hT : Txt w b B) (hL : B.length = L) (hC : L ≤ C) (hpre : hasP (B.drop a) (numsS ⟨#[95]⟩) = pb)
    (hD : (D = a ∧ sg = ⟨#[]⟩ ∧ pb = false) ∨ (D = a + 1 ∧ sg = ⟨#[45]⟩ ∧ pb = true)) (hDL : D ≤ L) (haL : a ≤ L) (hE : D + lead dgB (B.drop D) = E) (hEL : E ≤ L)
    (hP : ∀ W, Below w.heap.size w W → Calls Tryd.prog 42 #[.string (sg ++ strOfNums ((B.drop D).take (E - D))), .int .i64 10, .int .i64 64] W fun e w' => GivesP v ok W e w') :
    Calls Tryd.prog 33 #[.slice (some ⟨b, 0, none⟩) L C, .int .i64 (a : Int)] w fun e w' => e = .returned (.tuple #[.int .i64 (if ok then v else 0), .int .i64 (E : Int), .int .i64 (if ok then 0 else 2)]) ∧ Below w.heap.size w w' := by
  have hlen := hT.len
  rw [hL] at hlen
  have HBE := hide (begins_at hT hL hC a haL ⟨#[95]⟩)
  have sl1 := fun W => part_l (P := Tryd.prog) Tryd.underlying40 sz5 (some ⟨b, 0, none⟩) L C a (a : Int) rfl haL W
  have SL2 := hide (fun (k : Int) (hk : k = (D : Int)) W => part_lh (P := Tryd.prog) Tryd.underlying40 sz5 (some ⟨b, 0, none⟩) L C D E k (E : Int) hk rfl (by omega) (by omega) W)
  have HT : Hid (∀ W, Below w.heap.size w W → Txt W b B) := fun W h => hT.next h
  have HSTR := hide (fun W (h : Below w.heap.size w W) => str_of (c := C - D) ((hT.next h).part D C (by omega) (by omega) (E - D) (by omega)) (by rw [List.length_take, List.length_drop]; omega))
  have HL := hide hL
  have HP := hide hP
  have HDI : Hid (D + lead dgB (B.drop D) = E) := hE
  have HDG := hide (fun c W => digit32 c W)
  rw [hpre] at HBE
  generalize subA (some ⟨b, 0, none⟩) a C 1 = P1 at *
  generalize subA (some ⟨b, 0, none⟩) D C 1 = P2 at *
  have hss : (strOfNums ((B.drop D).take (E - D))).size ≤ 140737488355328 := by rw [str_size, List.length_take, List.length_drop]; omega
  generalize strOfNums ((B.drop D).take (E - D)) = SS at *
  have HADD := hide (fun (a : ByteArray) (ha : a.size ≤ 1) W => run_string_add_sum (P := Tryd.prog) (w := W) a SS (by omega))
  generalize E - D = M at *
  generalize C - D = K at *
  generalize L - a = N1 at *
  generalize C - a = K1 at *
  clear hT hL hP hE hpre
  rcases hD with hD | hD
  · obtain ⟨rfl, rfl, rfl⟩ := hD
    have sl2 := SL2.out (D : Int) rfl
    have hadd := HADD.out ⟨#[]⟩ (by decide)
    clear SL2 HADD
    go_enter Tryd.func33, Tryd.ntmps33
    go_wp2_with fail
    refine HBE.out.mono ?_
    rintro e w0 ⟨rfl, hb0⟩
    clear HBE
    go_wp2_with fail
    go_loopg [9] (L - D) (fun g i wr => ∃ j : Nat, g + j = L ∧ i = .int .i64 (j : Int) ∧ j + lead dgB (B.drop j) = E ∧ Below w.heap.size w wr)
    case atStart => exact ⟨D, by omega, by first | go_num | (rw [show ((a : Int) + 1) = (D : Int) by omega]), HDI.out, hb0⟩
    case round =>
      clear HDI hb0
      obtain ⟨j, hj, rfl, hjr, hnx⟩ := hrel
      have HJ := hide hjr
      clear hjr
      by_cases hlt : j < L
      · have hc := (HT.out _ hnx).cell j (by rw [HL.out]; exact hlt)
        have HST := hide (lead_step (p := dgB) (B := B) (a := j) (by rw [HL.out]; exact hlt))
        generalize B[j]?.getD 0 = c at *
        have HDC := hide (fun W => HDG.out c W)
        cases hdg : dgB c with
        | true =>
          rw [hdg] at HDC HST
          have HST' := hide (show lead dgB (B.drop j) = lead dgB (B.drop (j + 1)) + 1 from HST.out)
          clear HST HDG HT HSTR HP hdg
          go_wp2_with fail
          refine (HDC.out _).mono ?_
          rintro e w1 ⟨rfl, hw1⟩
          have hw2 := hw1.symm
          subst hw2
          go_wp2
          go_roundg (L - (j + 1))
          case rel => exact ⟨j + 1, by omega, by go_num, by have := HJ.out; have := HST'.out; omega, hnx⟩
          case measure => omega
        | false =>
          rw [hdg] at HDC HST
          have HST' := hide (show lead dgB (B.drop j) = 0 from HST.out)
          obtain rfl : j = E := lead_same HJ.out HST'.out
          clear HST HST' HJ hdg
          go_wp2_with fail
          refine (HDC.out _).mono ?_
          rintro e w1 ⟨rfl, hw1⟩
          have hw2 := hw1.symm
          subst hw2
          clear HDC
          have hstr := HSTR.out _ hnx
          clear HSTR HT HDG
          go_wp2_with fail
          refine (HP.out _ hnx).mono ?_
          rintro e w1 ⟨⟨r, v', rfl, hr⟩, hb1⟩
          have HB2 := hide (hnx.trans (hb1.mono hnx.size))
          clear HP hb1 hnx
          cases ok with
          | true =>
            obtain ⟨rfl, rfl⟩ : r = .nilIface ∧ v' = v := by simpa using hr
            go_wp2
            go_ret3
            exact ⟨rfl, HB2.out⟩
          | false =>
            obtain ⟨t, q, rfl⟩ : ∃ t q, r = .iface t q := by simpa using hr
            clear hr
            go_wp2
            go_ret3
            exact ⟨rfl, HB2.out⟩
      · have hje : j = L := by omega
        have HST' := hide (show lead dgB (B.drop j) = 0 from lead_end (by rw [HL.out]; omega))
        obtain rfl : j = E := lead_same HJ.out HST'.out
        clear HST' HJ
        subst hje
        have hstr := HSTR.out _ hnx
        clear HSTR HT HDG
        go_wp2_with fail
        refine (HP.out _ hnx).mono ?_
        rintro e w1 ⟨⟨r, v', rfl, hr⟩, hb1⟩
        have HB2 := hide (hnx.trans (hb1.mono hnx.size))
        clear HP hb1 hnx
        cases ok with
        | true =>
          obtain ⟨rfl, rfl⟩ : r = .nilIface ∧ v' = v := by simpa using hr
          go_wp2
          go_ret3
          exact ⟨rfl, HB2.out⟩
        | false =>
          obtain ⟨t, q, rfl⟩ : ∃ t q, r = .iface t q := by simpa using hr
          clear hr
          go_wp2
          go_ret3
          exact ⟨rfl, HB2.out⟩
  · obtain ⟨hDa, rfl, rfl⟩ := hD
    have HDA := hide hDa
    have hDa2 : a + 1 ≤ L := by omega
    have hle : D = a + 1 := hDa
    clear hDa
    have sl2 := SL2.out ((a : Int) + 1) (by omega)
    have hadd := HADD.out ⟨#[45]⟩ (by decide)
    clear SL2 HADD
    go_enter Tryd.func33, Tryd.ntmps33
    go_wp2_with fail
    refine HBE.out.mono ?_
    rintro e w0 ⟨rfl, hb0⟩
    clear HBE
    go_wp2_with fail
    go_loopg [9] (L - D) (fun g i wr => ∃ j : Nat, g + j = L ∧ i = .int .i64 (j : Int) ∧ j + lead dgB (B.drop j) = E ∧ Below w.heap.size w wr)
    case atStart => exact ⟨D, by omega, by first | go_num | (rw [show ((a : Int) + 1) = (D : Int) by omega]), HDI.out, hb0⟩
    case round =>
      clear HDI hb0
      obtain ⟨j, hj, rfl, hjr, hnx⟩ := hrel
      have HJ := hide hjr
      clear hjr
      by_cases hlt : j < L
      · have hc := (HT.out _ hnx).cell j (by rw [HL.out]; exact hlt)
        have HST := hide (lead_step (p := dgB) (B := B) (a := j) (by rw [HL.out]; exact hlt))
        generalize B[j]?.getD 0 = c at *
        have HDC := hide (fun W => HDG.out c W)
        cases hdg : dgB c with
        | true =>
          rw [hdg] at HDC HST
          have HST' := hide (show lead dgB (B.drop j) = lead dgB (B.drop (j + 1)) + 1 from HST.out)
          clear HST HDG HT HSTR HP hdg
          go_wp2_with fail
          refine (HDC.out _).mono ?_
          rintro e w1 ⟨rfl, hw1⟩
          have hw2 := hw1.symm
          subst hw2
          go_wp2
          go_roundg (L - (j + 1))
          case rel => exact ⟨j + 1, by omega, by go_num, by have := HJ.out; have := HST'.out; omega, hnx⟩
          case measure => omega
        | false =>
          rw [hdg] at HDC HST
          have HST' := hide (show lead dgB (B.drop j) = 0 from HST.out)
          obtain rfl : j = E := lead_same HJ.out HST'.out
          clear HST HST' HJ hdg
          go_wp2_with fail
          refine (HDC.out _).mono ?_
          rintro e w1 ⟨rfl, hw1⟩
          have hw2 := hw1.symm
          subst hw2
          clear HDC
          have hstr := HSTR.out _ hnx
          clear HSTR HT HDG
          go_wp2_with fail
          refine (HP.out _ hnx).mono ?_
          rintro e w1 ⟨⟨r, v', rfl, hr⟩, hb1⟩
          have HB2 := hide (hnx.trans (hb1.mono hnx.size))
          clear HP hb1 hnx
          cases ok with
          | true =>
            obtain ⟨rfl, rfl⟩ : r = .nilIface ∧ v' = v := by simpa using hr
            go_wp2
            go_ret3
            exact ⟨rfl, HB2.out⟩
          | false =>
            obtain ⟨t, q, rfl⟩ : ∃ t q, r = .iface t q := by simpa using hr
            clear hr
            go_wp2
            go_ret3
            exact ⟨rfl, HB2.out⟩
      · have hje : j = L := by omega
        have HST' := hide (show lead dgB (B.drop j) = 0 from lead_end (by rw [HL.out]; omega))
        obtain rfl : j = E := lead_same HJ.out HST'.out
        clear HST' HJ
        subst hje
        have hstr := HSTR.out _ hnx
        clear HSTR HT HDG
        go_wp2_with fail
        refine (HP.out _ hnx).mono ?_
        rintro e w1 ⟨⟨r, v', rfl, hr⟩, hb1⟩
        have HB2 := hide (hnx.trans (hb1.mono hnx.size))
        clear HP hb1 hnx
        cases ok with
        | true =>
          obtain ⟨rfl, rfl⟩ : r = .nilIface ∧ v' = v := by simpa using hr
          go_wp2
          go_ret3
          exact ⟨rfl, HB2.out⟩
        | false =>
          obtain ⟨t, q, rfl⟩ : ∃ t q, r = .iface t q := by simpa using hr
          clear hr
          go_wp2
          go_ret3
          exact ⟨rfl, HB2.out⟩
theorem str_data (l : List Int) : (strOfNums l).data.toList = Lib.bytesOf l := by rw [← Lib.strOfNums_toList, Lib.toList_data]
theorem app_data (a : ByteArray) (m : List Int) : (a ++ strOfNums m).data.toList = a.data.toList ++ Lib.bytesOf m := by
  rw [ByteArray.data_append, Array.toList_append, str_data]
/-- readNumber. -/
theorem readnum33 {w : World} {b C L : Nat} {B : List Int} (hT : Txt w b B) (G : Glb w) (hL : B.length = L) (hC : L ≤ C) (a : Nat) (haL : a ≤ L) (hn : numB (B.drop a) = true) :
    Calls Tryd.prog 33 #[.slice (some ⟨b, 0, none⟩) L C, .int .i64 (a : Int)] w fun e w' => e = .returned (.tuple #[.int .i64 (if fits (numV (B.drop a)) then numV (B.drop a) else 0), .int .i64 ((a + numE (B.drop a) : Nat) : Int), .int .i64 (if fits (numV (B.drop a)) then 0 else 2)]) ∧ Below w.heap.size w w' := by
  have hk := numE_pos hn
  rw [List.length_drop] at hk
  have hE : a + offM (B.drop a) + lead dgB (B.drop (a + offM (B.drop a))) = a + numE (B.drop a) := by
    unfold numE
    rw [List.drop_drop]
    omega
  have hdig : (B.drop (a + offM (B.drop a))).take (a + numE (B.drop a) - (a + offM (B.drop a))) = digL (B.drop a) := by
    unfold digL numE
    rw [List.drop_drop]
    congr 1
    omega
  have hlen := hT.len
  have hPr : ∀ (sg : ByteArray), sg.data.toList ++ Lib.bytesOf (digL (B.drop a)) = Lib.bytesOf (sgnL (B.drop a)) → sg.size ≤ 1 → ∀ W, Below w.heap.size w W → Calls Tryd.prog 42 #[.string (sg ++ strOfNums ((B.drop (a + offM (B.drop a))).take (a + numE (B.drop a) - (a + offM (B.drop a))))), .int .i64 10, .int .i64 64] W fun e w' => GivesP (numV (B.drop a)) (fits (numV (B.drop a))) W e w' := by
    intro sg hsg hsz W hW
    rw [hdig]
    refine parse40 (G.nx hW) hn _ (by rw [app_data]; exact hsg) ?_
    rw [ByteArray.size_append, str_size]
    have : (digL (B.drop a)).length ≤ B.length := by unfold digL; rw [List.length_take, List.length_drop, List.length_drop]; omega
    omega
  cases hp : hasP (B.drop a) minL with
  | false =>
    have ho : offM (B.drop a) = 0 := by unfold offM; rw [hp]; rfl
    refine num33_loop hT hL hC (pb := false) hp (Or.inl ⟨by rw [ho, Nat.add_zero], rfl, rfl⟩) (by omega) haL hE (by omega) (hPr ⟨#[]⟩ ?_ (by decide))
    unfold sgnL
    rw [hp]
    rfl
  | true =>
    have ho : offM (B.drop a) = 1 := by unfold offM; rw [hp]; rfl
    refine num33_loop hT hL hC (pb := true) hp (Or.inr ⟨by rw [ho], rfl, rfl⟩) (by omega) haL hE (by omega) (hPr ⟨#[45]⟩ ?_ (by decide))
    unfold sgnL
    rw [hp]
    rfl
end Go.Proofs.YtnndnjffnkhpdaaDoor
