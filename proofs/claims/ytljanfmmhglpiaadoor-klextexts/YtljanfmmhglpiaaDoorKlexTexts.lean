/-
  KlexTexts is proved: for every list of numbers, signs between quotes, the quote and the sign that turns it with one ahead, are read by klex.Lex as one text of just these signs; the law answers true. Conditions: those of the card (the listed package-level variables are laid as the program's text lays them); none besides.
-/
import Derived.Test.YtljanfmmhglpiaaDoorLxR
import Derived.Test.YtljanfmmhglpiaaDoorLxS
namespace Go.Proofs.YtljanfmmhglpiaaDoor.klexTexts
open Go.ChangeShapes Go.WideShapes Go.ChangeAt Go.RowKit
open Rn (Byte Good goodB put wid put_bytes put_length goodR_any)
set_option linter.unusedVariables false
set_option linter.unusedSimpArgs false
set_option maxRecDepth 100000
theorem enq_byte {l : List Int} (h : ∀ z ∈ l, TOk z) : ∀ c ∈ enq l, Byte c := by
  intro c hc
  unfold enq at hc
  obtain ⟨z, hz, hcz⟩ := List.mem_flatMap.1 hc
  exact dq_byte (h z hz).1 c hcz
theorem numsS_str {l : List Int} (h : ∀ z ∈ l, Byte z) : numsS (strOfNums l) = l := by
  unfold numsS
  rw [str_data]
  unfold Lib.bytesOf
  rw [List.map_map]
  conv => rhs; rw [← List.map_id l]
  refine List.map_congr_left fun z hz => ?_
  have := h z hz
  unfold Byte at this
  simp only [Function.comp, id]
  have e : (UInt8.ofNat z.toNat).toNat = z.toNat := by
    rw [UInt8.toNat_ofNat']
    exact Nat.mod_eq_of_lt (by omega)
  rw [e]
  omega
theorem bytes_own {w : World} {base n : Nat} {v : Value} {l : List Int} (h : w.ownsRow base 5 1 v n (bv l)) : ∃ a c, v = .slice a n c ∧ Lib.BytesIn w a n l ∧ l.length = n := by
  have hl : l.length = n := by
    have := h.1
    rw [List.length_map] at this
    omega
  have hh := h
  rcases h.2 with ⟨rfl, h0⟩ | ⟨g, cap, cur, rfl, -⟩
  · exact ⟨none, 0, by rw [h0], fun hn => by omega, hl⟩
  · refine ⟨_, _, rfl, fun hn => ⟨g, 0, rfl, fun i hi => ?_⟩, hl⟩
    have := hh.cellAt i (by omega)
    rw [List.getD_eq_getElem?_getD]
    rw [List.getElem?_map, List.getElem?_eq_getElem (by omega)] at this
    rw [List.getElem?_eq_getElem (by omega)]
    simpa using this
theorem take_snoc {zs : List Int} {i : Nat} {z : Int} (h : i < zs.length) (hz : zs[i]?.getD 0 = z) : zs.take (i + 1) = zs.take i ++ [z] := by
  rw [List.take_add_one, ← hz, List.getElem?_eq_getElem h]
  rfl
set_option maxHeartbeats 32000000 in
theorem walk (a : Option Addr) (len cap : Nat) (zs : List Int) (w : World) (G : Glb w) (hz : zs.length = len ∧ Row 0 w a zs ∧ len * 8 ≤ 140737488351232) : Calls Tryd.prog 6 #[.slice a len cap] w fun e w' => e = .returned (.bool true) ∧ Below w.heap.size w w' := by
  have HW7 : Hid (∀ W, Below w.heap.size w W → Calls Tryd.prog 7 #[] W fun e w' => e = .returned (.bool true) ∧ Below w.heap.size w w') := fun W h => (works7 (G.nx h)).mono fun e w' ⟨he, hb⟩ => ⟨he, h.trans (hb.mono h.size)⟩
  obtain ⟨i0, hi, hz0, hz1, hz2⟩ := info_parts info5
  obtain ⟨hlen, hrow, hw8⟩ := hz
  by_cases hl : 500 < len
  · have hl' : 500 < (len : Int) := by omega
    have HCC := hide (HW7.out w (Below.refl _ _))
    clear HW7 G hi hz0 hz1 hz2 hrow
    go_enter Tryd.func6, Tryd.ntmps6
    go_wp2_with fail
    refine HCC.out.mono ?_
    rintro e w5 ⟨rfl, hb5⟩
    go_wp2
    go_ret
    exact ⟨rfl, hb5⟩
  · have hl' : ¬ 500 < (len : Int) := by omega
    have HG := hide G
    have HROW : Hid (∀ W, Below w.heap.size w W → Row 0 W a zs) := fun W h => hrow.next h
    have HGO : Hid (∀ z W, Calls Tryd.prog 10 #[.int .i64 z] W fun e w' => e = .returned (.bool (goodB z)) ∧ w' = W) := fun z W => goodR_any z W
    have HPU : Hid (∀ z W, Good z → Calls Tryd.prog 11 #[.int .i64 z] W fun e w' => e = .returned (.slice (some ⟨W.heap.size, 0, none⟩) (wid z) (wid z)) ∧ w' = W.alloc (.cells (bv (put z)).toArray 5)) := fun z W h => put_any z W h
    clear G hrow hw8
    go_enter Tryd.func6, Tryd.ntmps6
    go_upto_region 5 with fail
    go_loopg [3, 4] len (fun g lv nv wr => ∃ (i : Nat), g + i = len ∧ nv = .int .i64 (i : Int) ∧ wr.ownsRow w.heap.size 5 1 lv (enq (zs.take i)).length (bv (enq (zs.take i))) ∧ Below w.heap.size w wr ∧ ∀ z ∈ zs.take i, TOk z)
    case atStart => exact ⟨0, by omega, by go_num, World.ownsRow_nil _ _ _ _, Below.refl _ _, fun z hz => by simp at hz⟩
    case round =>
      obtain ⟨i, hj, rfl, hown, hb, hok⟩ := hrel
      have HOWN := hide hown
      have HB := hide hb
      have HOK := hide hok
      clear hown hb hok
      by_cases hil : i < len
      · obtain ⟨b, off, rfl, hbl, hcell⟩ := row_at (HROW.out wr HB.out) (j := i) (by omega)
        obtain ⟨z, hzz⟩ : ∃ z, zs[i]?.getD 0 = z := ⟨_, rfl⟩
        rw [hzz] at hcell
        have HZZ := hide hzz
        clear hzz
        by_cases hg : Good z
        · by_cases h32 : z < 32
          · have HCC := hide (HW7.out wr HB.out)
            have hgc := hide (HGO.out z wr)
            rw [show goodB z = true from decide_eq_true hg] at hgc
            clear HOWN HOK HB HPU HGO HW7
            go_wp2_with fail
            refine hgc.out.mono ?_
            rintro e w1 ⟨rfl, rfl⟩
            clear hgc
            go_wp2_with fail
            refine HCC.out.mono ?_
            rintro e w5 ⟨rfl, hb5⟩
            go_wp2
            go_ret
            exact ⟨rfl, hb5⟩
          · by_cases h127 : z = 127
            · subst h127
              have HCC := hide (HW7.out wr HB.out)
              have hgc := hide (HGO.out 127 wr)
              rw [show goodB 127 = true from decide_eq_true hg] at hgc
              clear HOWN HOK HB HPU HGO HW7
              go_wp2_with fail
              refine hgc.out.mono ?_
              rintro e w1 ⟨rfl, rfl⟩
              clear hgc
              go_wp2_with fail
              refine HCC.out.mono ?_
              rintro e w5 ⟨rfl, hb5⟩
              go_wp2
              go_ret
              exact ⟨rfl, hb5⟩
            · have HTO : Hid (TOk z) := ⟨hg, by omega, h127⟩
              have hgc := hide (HGO.out z wr)
              rw [show goodB z = true from decide_eq_true hg] at hgc
              have h127' : (z == 127) = false := beq_eq_false_iff_ne.2 h127
              clear HGO HW7
              go_wp2_with fail
              refine hgc.out.mono ?_
              rintro e w1 ⟨rfl, rfl⟩
              clear hgc
              by_cases h39 : z = 34
              · subst h39
                have hlq := enq_len (zs.take i)
                have hltk : (zs.take i).length ≤ 500 := by rw [List.length_take]; omega
                have hb1s := HB.out.size
                have hown1 := HOWN.out
                have HIO := hide hown1
                clear HOWN
                go_wp2_with (at_builtin; refine wpList_append_at rfl _ _ 45 rfl w.heap.size 5 i0 (.int .u8 0) 1 1 Tryd.underlying45 hi hz0 hz1 hz2 rfl (by decide) _ _ _ rfl (hown1.alloc _) ⟨w1.heap.size, 0, none⟩ 1 1 [.int .u8 92] rfl rfl ?c1 ?c2 ?c3 ?c4 ?c5 ?_)
                case c1 =>
                  intro j u hj
                  match j, hj with
                  | 0, hj => simp at hj; subst hj; simp [Addr.add]
                case c2 => intro u hu; simp at hu; subst hu; rfl
                case c3 => unfold maxLen; omega
                case c4 => omega
                case c5 => simp; omega
                intro v2 w2 hown2 hgrow2 hwhere2
                have hb2 : Below w.heap.size w w2 := (HB.out.alloc (by omega) _).grown hgrow2 (by simp; omega) (fun k hk => (HIO.out.lt k hk).1)
                have HB2 := hide hb2
                have hb2s := hb2.size
                have HPZ := hide (HPU.out 34 w2 hg)
                have HRD := hide (HROW.out w2 hb2)
                clear HPU hwhere2 hgrow2 hb2 hown1 HIO HB
                obtain ⟨b', off', hab, hbl', hcell'⟩ := row_at HRD.out (j := i) (by omega)
                rw [HZZ.out] at hcell'
                obtain ⟨rfl, rfl⟩ : b' = b ∧ off' = off := by
                  simp at hab
                  exact ⟨hab.1.symm, hab.2.symm⟩
                clear HRD hab hcell
                go_wp2_with fail
                refine HPZ.out.mono ?_
                rintro e w3 ⟨rfl, hw3⟩
                clear HPZ
                have hb3 : Below w2.heap.size w2 w3 := by rw [hw3]; exact one_alloc _ _
                have hc3 : w3.cell? ⟨w2.heap.size, 0, none⟩ = some (.int .u8 34) := by rw [hw3]; exact cell_new0 w2 _ 5 0 _ rfl
                have hown3 := owns_next hown2 hb3
                have hb3s := hb3.size
                have HB3 := hide (HB2.out.trans (hb3.mono hb2s))
                clear hw3 hb3 hcell'
                go_wp2_with (at_builtin; refine wpList_append_at rfl _ _ 45 rfl w.heap.size 5 i0 (.int .u8 0) 1 1 Tryd.underlying45 hi hz0 hz1 hz2 rfl (by decide) _ _ _ rfl hown3 ⟨w2.heap.size, 0, none⟩ 1 1 [.int .u8 34] rfl rfl ?d1 ?d2 ?d3 ?d4 ?d5 ?_)
                case d1 =>
                  intro j u hj
                  match j, hj with
                  | 0, hj => simp at hj; subst hj; simpa [Addr.add] using hc3
                case d2 => intro u hu; simp at hu; subst hu; rfl
                case d3 => unfold maxLen; omega
                case d4 => omega
                case d5 => omega
                intro v4 w4 hown4 hgrow4 hwhere4
                have HOWN4 := hide hown4
                have HB4 := hide (HB3.out.grown hgrow4 (by omega) (fun k hk => (hown3.lt k hk).1))
                have hi1 : (i : Int) + 1 ≤ 9223372036854775807 := by omega
                clear hown4 hown3 hown2 hgrow4 hwhere4 hc3
                go_wp2
                go_roundg (len - (i + 1))
                case rel =>
                  have e : zs.take (i + 1) = zs.take i ++ [34] := take_snoc (by omega) HZZ.out
                  refine ⟨i + 1, by omega, by first | rfl | go_num, ?_, HB4.out, ?_⟩
                  · rw [e, enq_snoc]
                    rw [List.length_append, show (dq 34).length = 1 + 1 from rfl, ← Nat.add_assoc, show bv (enq (zs.take i) ++ dq 34) = bv (enq (zs.take i)) ++ [.int .u8 92, .int .u8 34] by rw [show dq 34 = [92, 34] from rfl]; simp [bv]]
                    exact HOWN4.out
                  · rw [e]
                    intro x hx
                    rcases List.mem_append.1 hx with hx | hx
                    · exact HOK.out x hx
                    · simp at hx; subst hx; exact HTO.out
                case measure => omega
              · by_cases h92 : z = 92
                · subst h92
                  have hlq := enq_len (zs.take i)
                  have hltk : (zs.take i).length ≤ 500 := by rw [List.length_take]; omega
                  have hb1s := HB.out.size
                  have hown1 := HOWN.out
                  have HIO := hide hown1
                  clear HOWN
                  go_wp2_with (at_builtin; refine wpList_append_at rfl _ _ 45 rfl w.heap.size 5 i0 (.int .u8 0) 1 1 Tryd.underlying45 hi hz0 hz1 hz2 rfl (by decide) _ _ _ rfl (hown1.alloc _) ⟨w1.heap.size, 0, none⟩ 1 1 [.int .u8 92] rfl rfl ?c1 ?c2 ?c3 ?c4 ?c5 ?_)
                  case c1 =>
                    intro j u hj
                    match j, hj with
                    | 0, hj => simp at hj; subst hj; simp [Addr.add]
                  case c2 => intro u hu; simp at hu; subst hu; rfl
                  case c3 => unfold maxLen; omega
                  case c4 => omega
                  case c5 => simp; omega
                  intro v2 w2 hown2 hgrow2 hwhere2
                  have hb2 : Below w.heap.size w w2 := (HB.out.alloc (by omega) _).grown hgrow2 (by simp; omega) (fun k hk => (HIO.out.lt k hk).1)
                  have HB2 := hide hb2
                  have hb2s := hb2.size
                  have HPZ := hide (HPU.out 92 w2 hg)
                  have HRD := hide (HROW.out w2 hb2)
                  clear HPU hwhere2 hgrow2 hb2 hown1 HIO HB
                  obtain ⟨b', off', hab, hbl', hcell'⟩ := row_at HRD.out (j := i) (by omega)
                  rw [HZZ.out] at hcell'
                  obtain ⟨rfl, rfl⟩ : b' = b ∧ off' = off := by
                    simp at hab
                    exact ⟨hab.1.symm, hab.2.symm⟩
                  clear HRD hab hcell
                  go_wp2_with fail
                  refine HPZ.out.mono ?_
                  rintro e w3 ⟨rfl, hw3⟩
                  clear HPZ
                  have hb3 : Below w2.heap.size w2 w3 := by rw [hw3]; exact one_alloc _ _
                  have hc3 : w3.cell? ⟨w2.heap.size, 0, none⟩ = some (.int .u8 92) := by rw [hw3]; exact cell_new0 w2 _ 5 0 _ rfl
                  have hown3 := owns_next hown2 hb3
                  have hb3s := hb3.size
                  have HB3 := hide (HB2.out.trans (hb3.mono hb2s))
                  clear hw3 hb3 hcell'
                  go_wp2_with (at_builtin; refine wpList_append_at rfl _ _ 45 rfl w.heap.size 5 i0 (.int .u8 0) 1 1 Tryd.underlying45 hi hz0 hz1 hz2 rfl (by decide) _ _ _ rfl hown3 ⟨w2.heap.size, 0, none⟩ 1 1 [.int .u8 92] rfl rfl ?d1 ?d2 ?d3 ?d4 ?d5 ?_)
                  case d1 =>
                    intro j u hj
                    match j, hj with
                    | 0, hj => simp at hj; subst hj; simpa [Addr.add] using hc3
                  case d2 => intro u hu; simp at hu; subst hu; rfl
                  case d3 => unfold maxLen; omega
                  case d4 => omega
                  case d5 => omega
                  intro v4 w4 hown4 hgrow4 hwhere4
                  have HOWN4 := hide hown4
                  have HB4 := hide (HB3.out.grown hgrow4 (by omega) (fun k hk => (hown3.lt k hk).1))
                  have hi1 : (i : Int) + 1 ≤ 9223372036854775807 := by omega
                  clear hown4 hown3 hown2 hgrow4 hwhere4 hc3
                  go_wp2
                  go_roundg (len - (i + 1))
                  case rel =>
                    have e : zs.take (i + 1) = zs.take i ++ [92] := take_snoc (by omega) HZZ.out
                    refine ⟨i + 1, by omega, by first | rfl | go_num, ?_, HB4.out, ?_⟩
                    · rw [e, enq_snoc]
                      rw [List.length_append, show (dq 92).length = 1 + 1 from rfl, ← Nat.add_assoc, show bv (enq (zs.take i) ++ dq 92) = bv (enq (zs.take i)) ++ [.int .u8 92, .int .u8 92] by rw [show dq 92 = [92, 92] from rfl]; simp [bv]]
                      exact HOWN4.out
                    · rw [e]
                      intro x hx
                      rcases List.mem_append.1 hx with hx | hx
                      · exact HOK.out x hx
                      · simp at hx; subst hx; exact HTO.out
                  case measure => omega
                · have h39' : (z == 34) = false := beq_eq_false_iff_ne.2 h39
                  have h92' : (z == 92) = false := beq_eq_false_iff_ne.2 h92
                  have hlq := enq_len (zs.take i)
                  have hltk : (zs.take i).length ≤ 500 := by rw [List.length_take]; omega
                  have hb1s := HB.out.size
                  have HPZ := hide (HPU.out z w1 hg)
                  have hwp := Rn.wid_pos z
                  have hpl := Rn.put_length z
                  clear HPU HROW
                  go_wp2_with fail
                  refine HPZ.out.mono ?_
                  rintro e w3 ⟨rfl, hw3⟩
                  clear HPZ
                  have hb3 : Below w1.heap.size w1 w3 := by rw [hw3]; exact one_alloc _ _
                  have hc3 : ∀ j u, (bv (put z))[j]? = some u → w3.cell? ⟨w1.heap.size, 0 + j, none⟩ = some u := fun j u hj => by
                    rw [hw3, Nat.zero_add]
                    exact cell_new0 w1 _ 5 j _ (by simpa using hj)
                  have hown3 := owns_next HOWN.out hb3
                  have hb3s := hb3.size
                  have HB3 := hide (HB.out.trans (hb3.mono hb1s))
                  clear hw3 hb3 hcell HOWN HB
                  obtain ⟨PZ, hPZ⟩ : ∃ PZ, bv (put z) = PZ := ⟨_, rfl⟩
                  rw [hPZ] at hc3
                  have hPl : PZ.length = wid z := by rw [← hPZ, List.length_map]; exact hpl
                  have hP1 : ∀ u ∈ PZ, u.oneCell' = true := by
                    intro u hu
                    rw [← hPZ] at hu
                    obtain ⟨x, -, rfl⟩ := List.mem_map.1 hu
                    rfl
                  have HPE := hide hPZ
                  generalize wid z = wz at *
                  clear hPZ hpl
                  go_wp2_with (at_builtin; refine wpList_append_at rfl _ _ 45 rfl w.heap.size 5 i0 (.int .u8 0) 1 1 Tryd.underlying45 hi hz0 hz1 hz2 rfl (by decide) _ _ _ rfl hown3 ⟨w1.heap.size, 0, none⟩ wz wz PZ rfl ?d0 ?d1 hP1 ?d3 ?d4 ?d5 ?_)
                  case d0 => omega
                  case d1 =>
                    intro j u hj
                    have h := hc3 j u hj
                    cases j with
                    | zero => simpa [Addr.add] using h
                    | succ j => simpa [Addr.add] using h
                  case d3 => unfold maxLen; omega
                  case d4 => omega
                  case d5 => omega
                  intro v4 w4 hown4 hgrow4 hwhere4
                  have HOWN4 := hide hown4
                  have HB4 := hide (HB3.out.grown hgrow4 (by omega) (fun k hk => (hown3.lt k hk).1))
                  have hi1 : (i : Int) + 1 ≤ 9223372036854775807 := by omega
                  clear hown4 hown3 hgrow4 hwhere4 hc3
                  go_wp2
                  go_roundg (len - (i + 1))
                  case rel =>
                    have e : zs.take (i + 1) = zs.take i ++ [z] := take_snoc (by omega) HZZ.out
                    refine ⟨i + 1, by omega, by first | rfl | go_num, ?_, HB4.out, ?_⟩
                    · have ed : dq z = put z := by unfold dq; rw [if_neg (fun h => h.elim h39 h92)]
                      have el : (put z).length = wz := by rw [← hPl, ← HPE.out, List.length_map]
                      rw [e, enq_snoc, ed, List.length_append, el, show bv (enq (zs.take i) ++ put z) = bv (enq (zs.take i)) ++ PZ by rw [← HPE.out]; simp [bv]]
                      exact HOWN4.out
                    · rw [e]
                      intro x hx
                      rcases List.mem_append.1 hx with hx | hx
                      · exact HOK.out x hx
                      · simp at hx; subst hx; exact HTO.out
                  case measure => omega
        · have HCC := hide (HW7.out wr HB.out)
          have hgc := hide (HGO.out z wr)
          rw [show goodB z = false from decide_eq_false hg] at hgc
          clear HOWN HOK HB HPU HGO HW7
          go_wp2_with fail
          refine hgc.out.mono ?_
          rintro e w1 ⟨rfl, rfl⟩
          clear hgc
          go_wp2_with fail
          refine HCC.out.mono ?_
          rintro e w5 ⟨rfl, hb5⟩
          go_wp2
          go_ret
          exact ⟨rfl, hb5⟩
      · have hie : i = len := by omega
        subst hie
        have htk : zs.take i = zs := List.take_of_length_le (by omega)
        have hown := HOWN.out
        have hok := HOK.out
        rw [htk] at hown hok
        clear HOWN HOK htk
        obtain ⟨p, c, rfl, hby, hbl⟩ := bytes_own hown
        have hlq := enq_len zs
        have hcv := str_of (c := c) hby hbl
        have hss := str_size (enq zs)
        obtain ⟨n, hn⟩ : ∃ n, (enq zs).length = n := ⟨_, rfl⟩
        have hF : lexM (numsS (⟨#[34]⟩ ++ strOfNums (enq zs) ++ ⟨#[34]⟩)) = ([⟨2, [], textA zs, 0⟩], 0, 0) := by
          rw [numsS_app, numsS_app, numsS_str (enq_byte hok)]
          exact lex_text zs hok (by omega)
        have hsz2 : (⟨#[34]⟩ ++ strOfNums (enq zs) ++ ⟨#[34]⟩ : ByteArray).size ≤ maxLen := by
          rw [ByteArray.size_append, ByteArray.size_append, hss]
          show 1 + (enq zs).length + 1 ≤ maxLen
          unfold maxLen
          omega
        have C := lex8 (HG.out.nx HB.out) (⟨#[34]⟩ ++ strOfNums (enq zs) ++ ⟨#[34]⟩) hsz2
        rw [hF] at C
        have hsS : ((strOfNums (enq zs)).size : Int) ≤ 8388608 := by rw [hss]; omega
        rw [hn] at hss hcv hby
        generalize strOfNums (enq zs) = SS at *
        have hS1 : ((⟨#[34]⟩ ++ SS : ByteArray).size : Int) ≤ 8388608 := by
          rw [ByteArray.size_append, hss]
          show ((1 + n : Nat) : Int) ≤ 8388608
          omega
        have HC := hide C
        clear C hF hsz2 hown hby hbl hlq hok
        go_wp2_with fail
        refine HC.out.mono ?_
        rintro e w5 ⟨⟨a5, c5, rfl, htk⟩, hb5⟩
        clear HC hcv hsS hS1 hss
        obtain ⟨W6, hW6⟩ : ∃ W6, w5.alloc (.cells #[.int .i64 0, .int .i64 0, .int .i64 0] 26) = W6 := ⟨_, rfl⟩
        have hb6 : Below w5.heap.size w5 W6 := by rw [← hW6]; exact one_alloc _ _
        have hb56 := hb5.trans (hb6.mono hb5.size)
        have u0 : W6.cell? ⟨w5.heap.size, 0, none⟩ = some (.int .i64 0) := by rw [← hW6]; exact cell_new0 w5 _ 26 0 _ rfl
        have hlt6 : w5.heap.size < W6.heap.size := by rw [← hW6]; simp
        have hbw : Below w.heap.size w W6 := HB.out.trans (hb56.mono HB.out.size)
        rcases (htk.next hb6).2 with h | ⟨g, off, rfl, hg, hcs⟩
        · cases h
        obtain ⟨z1, m1, z2, m2, q0, -, q2, q3, -, hA⟩ := hcs 0 _ rfl
        have q0' : W6.cell? ⟨g, off, none⟩ = some (.int .i64 2) := q0
        have q2' : W6.cell? ⟨g, off + 2, none⟩ = some (.slice z1 (textA zs).shape.length m1) := q2
        have q3' : W6.cell? ⟨g, off + 3, none⟩ = some (.slice z2 (textA zs).cells.length m2) := q3
        have hA' : ArIn 1 0 W6 (textA zs) (.agg #[.slice z1 (textA zs).shape.length m1, .slice z2 (textA zs).cells.length m2]) := hA
        clear hcs q0 q2 q3 hA htk
        have HTX : Hid (∀ W, Below W6.heap.size W6 W → Calls Tryd.prog 13 #[.slice a i cap] W fun e w' => (∃ v, e = .returned v ∧ ArIn 1 0 w' (textA zs) v) ∧ Below W6.heap.size W6 w') := fun W h => by
          have R := rtext_any 0 zs a cap W (HROW.out W (hbw.trans (h.mono hbw.size))) (by omega)
          rw [hlen] at R
          exact R.mono fun e w' ⟨⟨v, he, hv⟩, hb⟩ => ⟨⟨v, he, hv.low (Nat.zero_le _)⟩, h.trans (hb.mono h.size)⟩
        have HSA : Hid (∀ W v, Below W6.heap.size W6 W → ArIn 1 0 W (textA zs) v → Calls Tryd.prog 12 #[.agg #[.slice z1 (textA zs).shape.length m1, .slice z2 (textA zs).cells.length m2], v] W fun e w' => e = .returned (.bool true) ∧ Below W6.heap.size W6 w') := fun W v h hv => by
          have := rsame_any (hA'.next h) hv
          rw [show decide (cmpA 1 (textA zs) (textA zs) = 0) = true from decide_eq_true (cmpA_self _ _)] at this
          exact this.mono fun e w' ⟨he, hw⟩ => ⟨he, h.trans (hw.mono h.size)⟩
        have HWK : Hid (∀ W, Below W6.heap.size W6 W → Calls Tryd.prog 7 #[] W fun e w' => e = .returned (.bool true) ∧ Below W6.heap.size W6 w') := fun W h =>
          (works7 (HG.out.nx (hbw.trans (h.mono hbw.size)))).mono fun e w' ⟨he, hb⟩ => ⟨he, h.trans (hb.mono h.size)⟩
        have KS : Hid (∀ W, Below W6.heap.size W6 W → Below W6.heap.size W6 W ∧ W.cell? ⟨w5.heap.size, 0, none⟩ = some (.int .i64 0) ∧ W.cell? ⟨g, off, none⟩ = some (.int .i64 2) ∧ W.cell? ⟨g, off + 2, none⟩ = some (.slice z1 (textA zs).shape.length m1) ∧ W.cell? ⟨g, off + 3, none⟩ = some (.slice z2 (textA zs).cells.length m2)) := fun W h =>
          ⟨h, (h.cell (p := ⟨w5.heap.size, 0, none⟩) hlt6).trans u0, (h.cell (p := ⟨g, off, none⟩) hg).trans q0', (h.cell (p := ⟨g, off + 2, none⟩) hg).trans q2', (h.cell (p := ⟨g, off + 3, none⟩) hg).trans q3'⟩
        have HD0 : Hid (Below W6.heap.size W6 W6.drew) := (Below.refl _ _).drew
        have HBW := hide hbw
        have HW6 := hide hW6
        clear hb5 hb6 hb56 u0 hlt6 hbw q0' q2' q3' hA' hW6 HG HROW HW7 HB HGO HPU
        generalize (textA zs).shape.length = n1 at *
        generalize (textA zs).cells.length = n2 at *
        go_upto_region 13 with fail
        rw [show w5.alloc (.cells #[.int .i64 0, .int .i64 0, .int .i64 0] 26) = W6 from HW6.out]
        obtain ⟨-, g0, g1, g2, g3⟩ := KS.out W6 (Below.refl _ _)
        go_region_held3 (fun W => Below W6.heap.size W6 W ∧ W.cell? ⟨w5.heap.size, 0, none⟩ = some (.int .i64 0) ∧ W.cell? ⟨g, off, none⟩ = some (.int .i64 2) ∧ W.cell? ⟨g, off + 2, none⟩ = some (.slice z1 n1 m1) ∧ W.cell? ⟨g, off + 3, none⟩ = some (.slice z2 n2 m2)) (first | with_reducible exact KS.out _ HD0.out | with_reducible exact KS.out _ (by with_reducible assumption)) (first | (go_at_call 13; refine (HTX.out _ HD0.out).mono ?_; rintro e w7 ⟨⟨v7, rfl, hv7⟩, hb7⟩) | (go_at_call 12; refine (HSA.out _ _ (by with_reducible assumption) (by with_reducible assumption)).mono ?_; rintro e w8 ⟨rfl, hb8⟩) | (go_at_call 7; refine (HWK.out _ (by with_reducible assumption)).mono ?_; rintro e w9 ⟨rfl, hb9⟩))
        all_goals
          go_wp2
          go_ret
          exact ⟨rfl, HBW.out.trans ((show Below W6.heap.size W6 _ by assumption).mono HBW.out.size)⟩
theorem laid_met (os : Os) : laidMet Tryd.prog Rows.klexTextsRow.laid ((laidWorld os).forCall (fun _ _ => 0) ⟨#[], #[.slice none 0 0], []⟩).memory :=
  laidMet_laidAll _ (by kernel_rfl) (by kernel_rfl)
theorem reads (os : Os) {H : Type} (enc : TypeId × Value → H) : ∃ places, DataW.whole enc Tryd.prog ((laidWorld os).forCall (fun _ _ => 0) ⟨#[], #[.slice none 0 0], []⟩).memory Tryd.f6.params.toList Rows.klexTextsSpec.vars false #[Value.slice none 0 0].toList 8 = some ([.nil], [], places) :=
  ⟨[], by kernel_rfl⟩
set_option maxRecDepth 100000 in
theorem lifted (os : Os) (started : os.Started) (H : Type) (enc : TypeId × Value → H) (F : Stop.Interp) :
    ReturnsInHanded {} Tryd.checked os 6 .any ((OpenSpec.ofChange Rows.klexTextsSpec).preRow enc Tryd.prog Tryd.f6 Rows.klexTextsRow.domain false Rows.klexTextsRow.laid) (((OpenSpec.ofChange Rows.klexTextsSpec).at F).post enc Tryd.prog Tryd.f6 false true false false) := by
  obtain ⟨places, hx⟩ := reads os enc
  refine returnsInHanded_of_row (C := Tryd.checked) (s := OpenSpec.ofChange Rows.klexTextsSpec) own started (by kernel_rfl) Tryd.func6
    (witness_row_at (enc := enc) (C := Tryd.checked) false (laidWorld os) #[.slice none 0 0] (World.laidAll_os _ _ _) (by kernel_rfl) (by kernel_rfl) (by kernel_rfl)
      (OpenSpec.preRow_of_cond 8 hx (by kernel_rfl) (fun k hk => by cases hk) (by kernel_rfl) (laid_met os))) ?_
  intro W base args ds gs before hval0 hW _ hcond hsz0 hL hsh _
  have hsz : (DataW.weightsEach Tryd.prog (Tryd.f6.params.toList ++ Rows.klexTextsSpec.plain.varTypes Tryd.prog) (ds ++ gs)).all (· ≤ reachBytes) = true := hsz0
  clear hsz0
  have hval : ∀ (j : Nat) t v, Tryd.f6.params[j]? = some t → args[j]? = some v → Value.okWide Tryd.prog W .any base t v := hval0
  have hW' := hW
  obtain ⟨p, q, hA0, hV, rfl, hfz, hnd⟩ := hW
  have hA : DataW.TrodAll enc Tryd.prog W 0 (fun _ => true) true Tryd.f6.params.toList args.toList ds p := hA0
  rw [Tryd.params6] at hA hval hsz
  obtain ⟨v0, vs0, d0, ds0, p0, q0, hargs, rfl, rfl, h0, r0⟩ := trodAll_cons hA
  obtain ⟨rfl, rfl, rfl⟩ := trodAll_nil r0
  obtain rfl : args = #[v0] := by cases args; simp_all
  obtain ⟨rfl, rfl⟩ := trodVars_none hV
  obtain ⟨a0, len0, cap0, rfl⟩ := okWide_slice Tryd.underlying44 (hval 0 44 v0 rfl rfl)
  have k0 := h0
  have lt0 : ∀ x ∈ p0, x.block < W.heap.size := by obtain ⟨m, hm⟩ := k0; exact DataW.trod_lt m _ _ _ hm
  obtain ⟨z0, w0⟩ := ints64_row hsz (j := 0) rfl rfl h0
  clear hA0 hval0
  refine (walk a0 len0 cap0 z0 W (glb_of hL)  w0).mono fun e W' ⟨he, bel⟩ => ?_
  subst he
  exact ⟨_, rfl, _, _, _, [], _, [], hW', trodAll_mk1 (shut_bool Tryd.underlying4 _), (trodAll_cons_mk (Below.trod laidOut (by kernel_rfl) (of_decide_eq_true (by kernel_rfl)) k0 bel lt0) trodAll_mk0), rfl, bel.frame _, fun h => by cases h⟩
theorem said : Rows.KlexTextsSaid :=
  OpenClaim.holds_of_cond 6 Tryd.f6 rfl rfl rfl rfl rfl rfl rfl ⟨rfl, rfl, rfl, rfl, rfl⟩ rfl rfl rfl rfl rfl (by kernel_rfl) Tryd.func6 (by kernel_rfl)
    (of_decide_eq_true (by kernel_rfl)) (by unfold Func.isWrapper; first | (rw [if_pos (by decide +kernel)]; kernel_rfl) | (rw [if_neg (by decide +kernel)]; exact ⟨rfl, rfl⟩))
    (fun os started H enc _ F => by rw [OpenClaim.pre_eq_preRow]; exact lifted os started H enc F)
theorem plain (f : FuncId) (fn : Func) (hf : Tryd.pinned.checked.prog.funcNamed "triglyph/triglyphlaw14.KlexTexts" = some f) (hfn : Tryd.pinned.checked.prog.funcs[f]? = some fn) :
    true = Tryd.pinned.checked.prog.looks [] ∧ ∀ (j : Nat) t, fn.params[j]? = some t → Tryd.pinned.checked.prog.wantsStandIn t = false := by
  obtain rfl : f = 6 := Option.some.inj ((show Tryd.prog.funcNamed "triglyph/triglyphlaw14.KlexTexts" = some 6 by kernel_rfl).symm.trans hf) |>.symm
  obtain rfl : fn = Tryd.f6 := (Option.some.inj (Tryd.func6.symm.trans hfn)).symm
  refine ⟨by kernel_rfl, fun j t ht => ?_⟩
  rw [Tryd.params6] at ht
  have hm : t = 44 := by simpa using Array.mem_of_getElem? ht
  subst hm
  exact (show Tryd.prog.wantsStandIn 44 = false by kernel_rfl)
theorem proved : Rows.KlexTextsCardSaid :=
  Claim7.holds_tied_plain_at .later [] _ _ _ _ said (fun _ h => by cases h) (by kernel_rfl) (fun _ h => by cases h) klexTexts_row_tie rfl ⟨rfl, rfl⟩ (by kernel_rfl) rfl plain (by kernel_rfl)
end Go.Proofs.YtljanfmmhglpiaaDoor.klexTexts
namespace Go.Proofs.YtljanfmmhglpiaaDoor
theorem klexTexts_holds : Rows.KlexTextsCardSaid := klexTexts.proved
#print axioms klexTexts_holds
end Go.Proofs.YtljanfmmhglpiaaDoor
