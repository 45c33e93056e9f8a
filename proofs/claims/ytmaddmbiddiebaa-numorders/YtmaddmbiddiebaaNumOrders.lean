/-
  For all lists of int64 and all int turn the statement NumOrders holds: Sum and Prod of layer 1 answer the same whichever way round the numbers stand; no condition (the given row speaks of slices that a machine of 64 bits can hold).
-/
import Derived.Test.YtmaddmbiddiebaaRows
import Derived.WalkKit
import Derived.ProofKit
import Derived.OpenShut
import Derived.ChangeOld
import Derived.Below
import Derived.SizedLaws
import Derived.Test.YtmaddmbiddiebaaOwnI
namespace Go.Proofs.Ytmaddmbiddiebaa.numOrders
open Go.ChangeShapes Go.WideShapes Go.ChangeAt Go.RowKit
set_option linter.unusedVariables false
theorem own : ownKnob Try.prog.godebug = none := by kernel_rfl
theorem laidOut : laidOutB Try.prog = true := by kernel_rfl
theorem bytes2 : Try.prog.bytesOf 2 = 8 := by kernel_rfl
/-- The list read backwards from place k on, round its end. -/
def turned (l : List Int) (k : Nat) : List Int := (l.take (k + 1)).reverse ++ (l.drop (k + 1)).reverse
theorem turned_perm (l : List Int) (k : Nat) : (turned l k).Perm l := by
  have h := List.Perm.append (List.reverse_perm (l.take (k + 1))) (List.reverse_perm (l.drop (k + 1)))
  rw [List.take_append_drop] at h
  exact h
theorem sum_perm {l m : List Int} (h : l.Perm m) : l.sum = m.sum := by
  induction h with
  | nil => rfl
  | cons x _ ih => simp [ih]
  | swap x y l => simp; omega
  | trans _ _ h1 h2 => exact h1.trans h2
theorem prod_perm {l m : List Int} (h : l.Perm m) : prodL l = prodL m := by
  induction h with
  | nil => rfl
  | cons x _ ih => simp [prodL, ih]
  | swap x y l => simp [prodL, Int.mul_left_comm]
  | trans _ _ h1 h2 => exact h1.trans h2
theorem turned_at (l : List Int) (k i : Nat) (hk : k < l.length) (hi : i < l.length) : (turned l k)[i]?.getD 0 = l[if i ≤ k then k - i else k + l.length - i]?.getD 0 := by
  have hlen : (l.take (k + 1)).reverse.length = k + 1 := by simp; omega
  unfold turned
  by_cases h : i ≤ k
  · rw [List.getElem?_append_left (by omega), if_pos h, List.getElem?_reverse (by simp; omega)]
    have e : (l.take (k + 1)).length - 1 - i = k - i := by simp; omega
    rw [e, List.getElem?_take, if_pos (by omega)]
  · rw [List.getElem?_append_right (by omega), if_neg h, hlen, List.getElem?_reverse (by simp; omega), List.getElem?_drop]
    have e : k + 1 + ((l.drop (k + 1)).length - 1 - (i - (k + 1))) = k + l.length - i := by simp; omega
    rw [e]
theorem place (len k i : Nat) (hk : k < len) (hi : i < len) : ((k : Int) + (len : Int) - (i : Int)) % (len : Int) = ((if i ≤ k then k - i else k + len - i : Nat) : Int) := by
  by_cases h : i ≤ k
  · rw [if_pos h]
    have e : (k : Int) + (len : Int) - (i : Int) = ((k - i : Nat) : Int) + (len : Int) * 1 := by omega
    rw [e, Int.add_mul_emod_self_left, Int.emod_eq_of_lt (by omega) (by omega)]
  · rw [if_neg h, Int.emod_eq_of_lt (by omega) (by omega)]
    omega
theorem row_owned {w : World} {base : Nat} {v : Value} {zs : List Int} (h : w.ownsRow base 2 1 v zs.length (zs.map (Value.int .i64))) (hz : ∀ z ∈ zs, In64 z) (hl : zs.length ≤ 140737488355328) :
    ∃ a cap, v = .slice a zs.length cap ∧ Row w a zs := by
  obtain ⟨h1, h2⟩ := h
  rcases h2 with ⟨rfl, h2⟩ | ⟨g, cap, cur, rfl, hb, hg, hn, hm, hs, ht⟩
  · have e : zs = [] := List.eq_nil_of_length_eq_zero h2
    subst e
    exact ⟨none, 0, rfl, by simp, by simp, Or.inl rfl⟩
  · refine ⟨_, _, rfl, hz, hl, Or.inr ⟨g, 0, rfl, ?_, ?_⟩⟩
    · exact lt_of_block hg
    · intro k hk
      have hown : w.ownsRow base 2 1 (.slice (some ⟨g, 0, none⟩) zs.length cap) zs.length (zs.map (Value.int .i64)) := ⟨h1, Or.inr ⟨g, cap, cur, rfl, hb, hg, hn, hm, hs, ht⟩⟩
      have := hown.cellAt k (by omega)
      simp only [Nat.zero_add]
      rw [this, List.getElem?_map, List.getD_eq_getElem?_getD, List.getElem?_eq_getElem hk]
      rfl
theorem info2 : (Try.prog.info? 2).map (fun i => (i.zero, i.size, i.bytes)) = some (some (.int .i64 0), 1, 8) := by kernel_rfl
set_option maxHeartbeats 1000000 in
theorem walk0 (a : Option Addr) (cap : Nat) (t : Int) (w : World) (R : Row w a []) :
    Calls Try.prog 7 #[.slice a 0 cap, .int .i64 t] w fun e w' => e = .returned (.bool true) ∧ Below w.heap.size w w' := by
  have C1 := sum_any [] a cap w R
  have C2 := prod_any [] a cap w R
  have e1 : resV ([] : List Int).sum = 0 ∧ resE ([] : List Int).sum = 0 := by decide
  have e2 : resV (prodL []) = 1 ∧ resE (prodL []) = 0 := by decide
  rw [e1.1, e1.2] at C1
  rw [e2.1, e2.2] at C2
  clear e1 e2
  go_enter Try.func7, Try.ntmps7
  go_wp2_with (first | (go_at_call 23; refine C1.mono ?_; rintro e w' ⟨rfl, hw⟩; rw [hw]) | (go_at_call 25; refine C2.mono ?_; rintro e w' ⟨rfl, hw⟩; rw [hw]) | (go_at_call 13; refine (works_any _).mono ?_; rintro e w3 ⟨rfl, hb3⟩))
  go_ret
  exact ⟨rfl, hb3⟩
set_option maxHeartbeats 2000000 in
theorem walk1 (l : List Int) (a : Option Addr) (cap : Nat) (t : Int) (w : World) (R : Row w a l) (h0 : 0 < l.length) (hreach : l.length * 8 ≤ 140737488351232) :
    Calls Try.prog 7 #[.slice a l.length cap, .int .i64 t] w fun e w' => e = .returned (.bool true) ∧ Below w.heap.size w w' := by
  obtain ⟨i0, hi, hz0, hz1, hz2⟩ := info_parts info2
  obtain ⟨k, hk, hkl⟩ : ∃ k : Nat, (IntKind.u64.wrap t).tmod (l.length : Int) = (k : Int) ∧ k < l.length := by
    have h0' : (0 : Int) ≤ IntKind.u64.wrap t := by rw [IntKind.wrap_u64]; omega
    rw [Int.tmod_eq_emod_of_nonneg h0']
    have h1 := Int.emod_nonneg (IntKind.u64.wrap t) (show (l.length : Int) ≠ 0 by omega)
    have h2 := Int.emod_lt_of_pos (IntKind.u64.wrap t) (show (0 : Int) < (l.length : Int) by omega)
    exact ⟨(IntKind.u64.wrap t % (l.length : Int)).toNat, by omega, by omega⟩
  have hne : ((l.length : Int) == 0) = false := beq_eq_false_iff_ne.2 (by omega)
  have HP := turned_perm l k
  have HL : Hid ((turned l k).length = l.length) := HP.length_eq
  have HT : Hid (∀ i, i < l.length → (turned l k)[i]?.getD 0 = l[if i ≤ k then k - i else k + l.length - i]?.getD 0) := fun i hi => turned_at l k i hkl hi
  have HX : Hid (∀ i, i < l.length → ((k : Int) + (l.length : Int) - (i : Int)) % (l.length : Int) = ((if i ≤ k then k - i else k + l.length - i : Nat) : Int)) := fun i hi => place l.length k i hkl hi
  have HS : Hid ((turned l k).sum = l.sum ∧ prodL (turned l k) = prodL l ∧ ∀ z ∈ turned l k, In64 z) := ⟨sum_perm HP, prod_perm HP, fun z hz => R.1 z (HP.mem_iff.1 hz)⟩
  clear HP
  generalize turned l k = m at HL HT HS
  have hrow := @row_at _ _ _ R
  go_enter Try.func7, Try.ntmps7
  go_wp2
  clear hk
  go_loopw [10, 11] (fun v i wr => ∃ j : Nat, j ≤ l.length ∧ i = .int .i64 j ∧ wr.ownsRow w.heap.size 2 1 v j ((m.take j).map (Value.int .i64)) ∧ Below w.heap.size w wr) (fun _ i _ => l.length - (intOf i).toNat)
  case atStart => exact ⟨0, Nat.zero_le _, rfl, World.ownsRow_nil _ _ _ _, Below.refl _ _⟩
  case round =>
    obtain ⟨j, hj, rfl, hown, hnx⟩ := hrel
    by_cases hlt : j < l.length
    · have hx := HX.out j hlt
      have ht := HT.out j hlt
      obtain ⟨p, hp⟩ : ∃ p : Nat, (if j ≤ k then k - j else k + l.length - j) = p := ⟨_, rfl⟩
      rw [hp] at hx ht
      have hpl : p < l.length := by rw [← hp]; split <;> omega
      clear hp
      obtain ⟨b, off, ha, hb, hck⟩ := hrow hpl
      subst ha
      have hcx : wr.cell? ⟨b, off + p, none⟩ = some (.int .i64 (l[p]?.getD 0)) := (hnx.cell (p := ⟨b, off + p, none⟩) hb).trans hck
      have HTT : Hid (m[j]?.getD 0 = l[p]?.getD 0) := ht
      obtain ⟨z, hz⟩ : ∃ z, z = l[p]?.getD 0 := ⟨_, rfl⟩
      rw [← hz] at hcx HTT
      clear hck ht hrow HX HT hz
      go_wp2_with (at_builtin; refine wpList_append_own _ rfl _ _ 31 rfl w.heap.size 2 i0 (.int .i64 0) 1 8 Try.underlying31 hi hz0 hz1 hz2 rfl (by decide) _ _ _ rfl (hown.alloc _) ⟨wr.heap.size, 0, none⟩ 1 1 [.int .i64 z] rfl rfl ?c1 ?c2 ?c3 ?c4 ?c5 ?_)
      case c1 =>
        intro j u hj
        match j, hj with
        | 0, hj => simp at hj; subst hj; simp [Addr.add]
      case c2 => intro u hu; simp at hu; subst hu; rfl
      case c3 => unfold maxLen; omega
      case c4 => omega
      case c5 => have := hnx.size; simp; omega
      · intro v' w1 hown' hgrow _
        have hml : j < m.length := by rw [HL.out]; exact hlt
        have et : m.take (j + 1) = m.take j ++ [z] := by
          rw [List.take_succ_eq_append_getElem hml]
          have := HTT.out
          simp only [List.getElem?_eq_getElem hml, Option.getD_some] at this
          rw [this]
        have hown2 : w1.ownsRow w.heap.size 2 1 v' (j + 1) ((m.take (j + 1)).map (Value.int .i64)) := by
          rw [et, List.map_append]; simpa [List.map_take] using hown'
        have hbel : Below w.heap.size w w1 := (hnx.alloc hnx.size _).grown hgrow (by have := hnx.size; simp; omega) (fun q hq => (hown.lt q hq).1)
        clear hown' hgrow hown hnx hcx et
        go_wp2
        go_roundw
        case rel => exact ⟨j + 1, by omega, by go_num, hown2, hbel⟩
        case measure => simp [intOf]; omega
    · have hje : j = m.length := by rw [HL.out]; omega
      subst hje
      have hml := HL.out
      rw [List.take_length] at hown
      obtain ⟨am, capm, hv, Rm⟩ := row_owned hown HS.out.2.2 (by omega)
      clear hml
      have Rl := R.below hnx
      subst hv
      have hs := HS.out.1
      have hp := HS.out.2.1
      clear hown R hrow HX HT HS
      go_wp2_with (first | (go_at_call 23; refine (sum_any _ _ _ _ (by assumption)).mono ?_; rintro e w' ⟨rfl, hw⟩; rw [hw]) | (go_at_call 25; refine (prod_any _ _ _ _ (by assumption)).mono ?_; rintro e w' ⟨rfl, hw⟩; rw [hw]) | (go_at_call 13; refine (works_any _).mono ?_; rintro e w3 ⟨rfl, hb3⟩))
      go_ret
      exact ⟨rfl, hnx.trans (hb3.mono hnx.size)⟩
theorem walk (a : Option Addr) (len cap : Nat) (zs : List Int) (t : Int) (w : World) (h0 : IsRow .i64 w a len cap zs) (hr : len * 8 ≤ 140737488351232) :
    Calls Try.prog 7 #[.slice a len cap, .int .i64 t] w fun e w' => e = .returned (.bool true) ∧ Below w.heap.size w w' := by
  have R := row_of h0 (by omega)
  have hlen := row_len h0
  clear h0
  generalize zs.take len = l at R hlen
  subst hlen
  by_cases h : l.length = 0
  · have e : l = [] := List.eq_nil_of_length_eq_zero h
    subst e
    exact walk0 a cap t w R
  · exact walk1 l a cap t w R (by omega) hr
set_option maxRecDepth 100000 in
theorem lifted (os : Os) (started : os.Started) (H : Type) (enc : TypeId × Value → H) :
    ReturnsInHanded {} Try.checked os 7 .any (Rows.numOrdersSpec.pre6 enc Try.prog Try.f7 Rows.numOrdersRow.domain false) (Rows.numOrdersSpec.post enc Try.prog Try.f7 false true false false) := by
  refine returnsInHanded_of_change_sized (C := Try.checked) own started (by kernel_rfl) Try.func7
    (ChangeSpec.witness6 (enc := enc) (C := Try.checked) false ⟨#[], #[.slice none 0 0, .int .i64 0], []⟩ 8 (by kernel_rfl) (by kernel_rfl) (by kernel_rfl) (by kernel_rfl)) ?_
  intro W base args ds gs before hval0 hW _ hsz0 _
  have hsz : (DataW.weightsEach Try.prog (Try.f7.params.toList ++ Rows.numOrdersSpec.plain.varTypes Try.prog) (ds ++ gs)).all (· ≤ reachBytes) = true := hsz0
  clear hsz0
  have hval : ∀ (j : Nat) t v, Try.f7.params[j]? = some t → args[j]? = some v → Value.okWide Try.prog W .any base t v := hval0
  have hW' := hW
  obtain ⟨p, q, hA0, hV, rfl, hfz, hnd⟩ := hW
  have hA : DataW.TrodAll enc Try.prog W 0 (fun _ => true) true Try.f7.params.toList args.toList ds p := hA0
  rw [Try.params7] at hA hval hsz
  obtain ⟨v0, vs0, d0, ds0, p0, q0, hargs, rfl, rfl, h0, r0⟩ := trodAll_cons hA
  obtain ⟨v1, vs1, d1, ds1, p1, q1, rfl, rfl, rfl, h1, r1⟩ := trodAll_cons r0
  obtain ⟨rfl, rfl, rfl⟩ := trodAll_nil r1
  obtain rfl : args = #[v0, v1] := by cases args; simp_all
  obtain ⟨rfl, rfl⟩ := trodVars_none hV
  obtain ⟨a0, len0, cap0, rfl⟩ := okWide_slice Try.underlying31 (hval 0 31 v0 rfl rfl)
  have k0 := h0
  have lt0 : ∀ x ∈ p0, x.block < W.heap.size := by obtain ⟨m, hm⟩ := k0; exact DataW.trod_lt m _ _ _ hm
  obtain ⟨z0, w0, b0⟩ : ∃ zs, IsRow .i64 W a0 len0 cap0 zs ∧ len0 * 8 ≤ 140737488351232 := by
    obtain ⟨fuel, hf⟩ := h0
    rcases open_ints Try.underlying31 Try.underlying2 (by kernel_rfl) hf with ⟨hcs, hx⟩ | ⟨x, l, c, zs, hcs, _, hl, hm, hz, hx, hcell, hwz⟩
    · simp [Value.cells] at hcs
      obtain ⟨rfl, rfl, rfl⟩ := hcs
      exact ⟨[], .inl ⟨rfl, rfl, rfl, rfl⟩, by omega⟩
    · simp [Value.cells] at hcs
      obtain ⟨rfl, rfl, rfl⟩ := hcs
      have hd := (Prod.mk.inj hx).1
      have hz' : zs.length = cap0 := by simpa using hz
      rw [hd] at hsz
      have hs := sized_slice hsz (j := 0) (t := 31) (e := 2) rfl rfl Try.underlying31
      rw [bytes2] at hs
      simp only [lits, List.length_map, List.length_take, List.length_drop, reachBytes] at hs
      exact ⟨zs, .inr ⟨_, rfl, hl, hm, hz', hcell, hwz⟩, by omega⟩
  obtain ⟨a1, rfl, rfl, rfl, w1⟩ := open_int Try.underlying3 (hval 1 3 v1 rfl rfl) h1
  clear hA0 hval0
  refine (walk a0 len0 cap0 z0 a1 W w0 b0).mono fun e W' ⟨he, bel⟩ => ?_
  subst he
  exact ⟨_, rfl, _, _, _, [], _, [], hW', trodAll_mk1 (shut_bool Try.underlying4 _), (trodAll_cons_mk (Below.trod laidOut (by kernel_rfl) (of_decide_eq_true (by kernel_rfl)) k0 bel lt0) (trodAll_cons_mk (shut_int Try.underlying3 w1) trodAll_mk0)), rfl, bel.frame _, fun h => by cases h⟩
theorem over : Rows.numOrdersRow.holds Try.pinned (OpenSpec.ofChange Rows.numOrdersSpec) :=
  OpenClaim.holds_of_wide 7 Try.f7 rfl rfl rfl rfl rfl rfl rfl ⟨rfl, rfl, rfl, rfl, rfl⟩ rfl rfl rfl rfl rfl (by kernel_rfl) Try.func7 (by kernel_rfl)
    (of_decide_eq_true (by kernel_rfl)) (by unfold Func.isWrapper; first | (rw [if_pos (by decide +kernel)]; kernel_rfl) | (rw [if_neg (by decide +kernel)]; exact ⟨rfl, rfl⟩))
    (fun os started H enc _ => lifted os started H enc)
theorem proved : Rows.NumOrdersSaid := over
end Go.Proofs.Ytmaddmbiddiebaa.numOrders
namespace Go.Proofs.Ytmaddmbiddiebaa
theorem numOrders_holds : Rows.NumOrdersSaid := numOrders.proved
#print axioms numOrders_holds
end Go.Proofs.Ytmaddmbiddiebaa
