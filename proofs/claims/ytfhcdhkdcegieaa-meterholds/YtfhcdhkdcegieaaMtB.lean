/-
  What is light has no more cells than it weighs.
-/
import Derived.Test.YtfhcdhkdcegieaaMtA
namespace Go.Proofs.Ytfhcdhkdcegieaa
open Go.ChangeShapes Go.WideShapes Go.ChangeAt Go.RowKit
set_option linter.unusedVariables false
set_option maxRecDepth 100000
def WeiC (d : Nat) : Prop := ∀ n x lo va w (M : Int), ArIn n lo w x va → 0 ≤ M → M ≤ 4000 → Calls Try.prog 27 #[va, .int .i64 M, .int .i64 (d : Int)] w fun e w' => (∃ r : Int, e = .returned (.int .i64 r) ∧ 0 ≤ r ∧ r ≤ 147000000000000 + 5000 * (d : Int) ∧ (r ≤ M → (cntA n x : Int) ≤ r)) ∧ Below w.heap.size w w'
set_option maxHeartbeats 4000000 in
theorem wei_step (d : Nat) (hd : d ≤ 16) (IH : ∀ d', d = d' + 1 → WeiC d') : WeiC d := by
  intro n x lo va w M hx hM0 hM
  cases n with
  | zero => exact hx.elim
  | succ n =>
  obtain ⟨a1, c1, a2, c2, rfl, R, hl, hc⟩ := hx
  have hlR := R.1
  have hb0 := one_alloc w (.cells #[.slice a1 x.shape.length c1, .slice a2 x.cells.length c2] 38)
  have q := cell_new0 w #[.slice a1 x.shape.length c1, .slice a2 x.cells.length c2] 38 1 _ rfl
  have HB := hide (boxes_at hc)
  have HQ := hide (And.intro hb0 (And.intro q (show w.heap.size < (w.alloc (.cells #[.slice a1 x.shape.length c1, .slice a2 x.cells.length c2] 38)).heap.size by simp)))
  rw [show cntA (n + 1) x = x.cells.length + sumN (fun i => sumN (fun k => cntA n (bAt (cAt x.cells i).2.2 k)) (cAt x.cells i).2.2.length) x.cells.length from rfl]
  clear R hc hb0 q
  generalize hNL : (fun i => (cAt x.cells i).2.2.length) = NL at *
  generalize hY : (fun i k => bAt (cAt x.cells i).2.2 k) = Y at *
  have HB' : Hid (∀ i, i < x.cells.length → ∃ b off ab cb, a2 = some ⟨b, off, none⟩ ∧ NL i ≤ 5864062014805 ∧ (∀ wr, Below w.heap.size w wr → wr.cell? ⟨b, off + i * 3 + 2, none⟩ = some (.slice ab (NL i) cb)) ∧
      ∀ k, k < NL i → ∃ bb ob u0 u1, ab = some ⟨bb, ob, none⟩ ∧ ∀ wr, Below w.heap.size w wr → wr.cell? ⟨bb, ob + k * 2, none⟩ = some u0 ∧ wr.cell? ⟨bb, ob + k * 2 + 1, none⟩ = some u1 ∧ ArIn n lo wr (Y i k) (.agg #[u0, u1])) := by
    subst hNL hY
    exact HB.out
  have hF : (fun i => sumN (fun k => cntA n (bAt (cAt x.cells i).2.2 k)) (cAt x.cells i).2.2.length) = fun i => sumN (fun k => cntA n (Y i k)) (NL i) := by
    subst hNL hY
    rfl
  rw [hF]
  clear HB hNL hY hF
  generalize x.shape.length = SA at *
  generalize x.cells.length = CA at *
  obtain ⟨FS, hFS⟩ : ∃ FS, (fun i => sumN (fun k => cntA n (Y i k)) (NL i)) = FS := ⟨_, rfl⟩
  have HFS := hide hFS
  rw [hFS]
  clear hFS
  go_enter Try.func27, Try.ntmps27
  go_wp2
  go_loopg [7, 8] CA (fun g nv i wr => ∃ (j : Nat) (N : Int), g + j = CA ∧ i = .int .i64 (j : Int) ∧ nv = .int .i64 N ∧ 0 ≤ N ∧ N ≤ 147000000000000 + 5000 * (d : Int) ∧ (N ≤ M → ((CA + sumN FS j : Nat) : Int) ≤ N) ∧ Below w.heap.size w wr ∧ wr.cell? ⟨w.heap.size, 1, none⟩ = some (.slice a2 CA c2) ∧ w.heap.size < wr.heap.size)
  case atStart => exact ⟨0, (CA : Int) + (SA : Int), rfl, rfl, by go_num, by omega, by omega, by intro _; simp [sumN]; omega, HQ.out.1, HQ.out.2.1, HQ.out.2.2⟩
  case round =>
    clear HQ
    obtain ⟨j, N, hj, rfl, rfl, hN0, hN1, hthin, hnx, hcl, hsz⟩ := hrel
    have HTH := hide hthin
    have HSZ := hide hsz
    clear hthin hsz
    by_cases hlt : j < CA
    · by_cases hNM : N ≤ M
      · have HOUT := hide (HTH.out hNM)
        clear HTH
        obtain ⟨b, off, ab, cb, rfl, hnl, hbox, hboxes⟩ := HB'.out j hlt
        have HBOX := hide hbox
        have HBXS := hide hboxes
        have HSJ : Hid (sumN FS (j + 1) = sumN FS j + sumN (fun k => cntA n (Y j k)) (NL j)) := by show _ = _; rw [← HFS.out]; rfl
        clear hbox hboxes HB'
        obtain ⟨L, hL⟩ : ∃ L, NL j = L := ⟨_, rfl⟩
        rw [hL] at hnl HBOX HBXS HSJ
        clear hL
        go_wp2
        go_loopg [7, 9] L (fun g nv kv wr => ∃ (k : Nat) (N' : Int), g + k = L ∧ kv = .int .i64 (k : Int) ∧ nv = .int .i64 N' ∧ 0 ≤ N' ∧ N' ≤ 147000000000000 + 5000 * (d : Int) ∧ (N' ≤ M → ((CA + sumN FS j + sumN (fun k => cntA n (Y j k)) k : Nat) : Int) ≤ N') ∧ Below w.heap.size w wr ∧ wr.cell? ⟨w.heap.size, 1, none⟩ = some (.slice (some ⟨b, off, none⟩) CA c2) ∧ w.heap.size < wr.heap.size)
        case atStart => exact ⟨0, N, rfl, rfl, rfl, hN0, hN1, by intro _; have := HOUT.out; simp only [sumN]; omega, hnx, hcl, HSZ.out⟩
        case round =>
          clear hnx hcl HSZ hN0 hN1 hNM
          obtain ⟨k, N', hk, rfl, rfl, hN0, hN1, hthin, hnx, hcl, hsz⟩ := hrel
          have HTH := hide hthin
          have HSZ := hide hsz
          have hbx := HBOX.out _ hnx
          clear hthin hsz
          by_cases hkl : k < L
          · by_cases hNM : N' ≤ M
            · by_cases hd0 : d = 0
              · subst hd0
                clear HBXS HBOX
                go_wp2
                go_ret
                exact ⟨⟨M + 1, by go_num, by omega, by omega, fun h => absurd h (by omega)⟩, hnx⟩
              · obtain ⟨d', rfl⟩ : ∃ d', d = d' + 1 := ⟨d - 1, by omega⟩
                obtain ⟨bb, ob, u0, u1, rfl, hcs⟩ := HBXS.out k hkl
                obtain ⟨g0, g1, g2⟩ := hcs _ hnx
                have C : Hid (∀ D : Int, D = (d' : Int) → Calls Try.prog 27 #[.agg #[u0, u1], .int .i64 (M - N'), .int .i64 D] wr fun e w' => (∃ r : Int, e = .returned (.int .i64 r) ∧ 0 ≤ r ∧ r ≤ 147000000000000 + 5000 * (d' : Int) ∧ (r ≤ M - N' → (cntA n (Y j k) : Int) ≤ r)) ∧ Below wr.heap.size wr w') := by
                  rintro D rfl
                  exact IH d' rfl n _ lo _ wr (M - N') g2 (by omega) (by omega)
                have HSK : Hid (sumN (fun k => cntA n (Y j k)) (k + 1) = sumN (fun k => cntA n (Y j k)) k + cntA n (Y j k)) := rfl
                have hd1 : ((d' + 1 : Nat) : Int) ≠ 0 := by omega
                clear hcs g2 HBXS hd0
                go_wp2_with fail
                refine (C.out _ (by omega)).mono ?_
                rintro e w1 ⟨⟨r, rfl, hr0, hr1, hrt⟩, hb1⟩
                have HRT := hide hrt
                clear hrt C
                go_wp2
                go_roundg (L - (k + 1))
                case rel =>
                  refine ⟨k + 1, N' + 1 + r, by omega, by go_num, by go_num, by omega, by omega, ?_, hnx.trans (hb1.mono hnx.size), (hb1.cell (p := ⟨w.heap.size, 1, none⟩) HSZ.out).trans hcl, Nat.lt_of_lt_of_le HSZ.out hb1.size⟩
                  intro hle
                  have h1 := HTH.out hNM
                  have h2 := HRT.out (by omega)
                  rw [HSK.out]
                  omega
                case measure => omega
            · clear HBXS HBOX
              go_wp2
              go_roundg (CA - (j + 1))
              case rel => exact ⟨j + 1, N', by omega, by go_num, rfl, hN0, hN1, fun h => absurd h (by omega), hnx, hcl, HSZ.out⟩
              case measure => omega
          · have hke : k = L := by omega
            subst hke
            clear HBXS HBOX
            go_wp2
            go_roundg (CA - (j + 1))
            case rel =>
              refine ⟨j + 1, N', by omega, by go_num, rfl, hN0, hN1, ?_, hnx, hcl, HSZ.out⟩
              intro hle
              have h1 := HTH.out hle
              rw [HSJ.out]
              omega
            case measure => omega
      · go_wp2
        go_ret
        exact ⟨⟨N, rfl, hN0, hN1, fun h => absurd h (by omega)⟩, hnx⟩
    · have hje : j = CA := by omega
      subst hje
      have HFIN : Hid (N ≤ M → ((j + sumN FS j : Nat) : Int) ≤ N) := HTH.out
      clear HB' HTH
      go_wp2
      go_ret
      exact ⟨⟨N, rfl, hN0, hN1, HFIN.out⟩, hnx⟩
theorem wei_any (d : Nat) (hd : d ≤ 16) : WeiC d := by
  induction d with
  | zero => exact wei_step 0 (by omega) (fun d' h => by omega)
  | succ d ih =>
    refine wei_step (d + 1) hd (fun d' h => ?_)
    have e : d' = d := by omega
    rw [e]
    exact ih (by omega)
set_option maxHeartbeats 1000000 in
theorem weight_cnt {n lo : Nat} {x : Ar} {va : Value} {w : World} (hx : ArIn n lo w x va) : Calls Try.prog 25 #[va, .int .i64 3000] w fun e w' => (∃ r : Int, e = .returned (.int .i64 r) ∧ (r ≤ 3000 → cntA n x ≤ 3000)) ∧ Below w.heap.size w w' := by
  have C := fun w' hb => wei_any 16 (by omega) n x lo va w' 3000 (hx.next hb) (by omega) (by omega)
  cases n with
  | zero => exact hx.elim
  | succ n =>
    obtain ⟨a1, c1, a2, c2, rfl, -⟩ := hx
    generalize x.shape.length = SA at *
    generalize x.cells.length = CA at *
    have C1 := C _ (one_alloc w (.cells #[.slice a1 SA c1, .slice a2 CA c2] 38))
    clear C
    go_enter Try.func25, Try.ntmps25
    go_wp2_with fail
    refine C1.mono ?_
    rintro e w1 ⟨⟨r, rfl, -, -, hr⟩, hb1⟩
    have HR := hide hr
    clear hr
    go_wp2
    go_ret
    exact ⟨⟨r, rfl, fun h => by have := HR.out h; omega⟩, (one_alloc _ _).trans (hb1.mono (one_alloc _ _).size)⟩
set_option maxHeartbeats 1000000 in
theorem light_any {n lo : Nat} {x : Ar} {va : Value} {w : World} (hx : ArIn n lo w x va) : Calls Try.prog 13 #[va] w fun e w' => (∃ r : Bool, e = .returned (.bool r) ∧ (r = true → cntA n x ≤ 3000)) ∧ Below w.heap.size w w' := by
  have C := fun w' hb => weight_cnt (w := w') (hx.next hb)
  cases n with
  | zero => exact hx.elim
  | succ n =>
    obtain ⟨a1, c1, a2, c2, rfl, -⟩ := hx
    generalize x.shape.length = SA at *
    generalize x.cells.length = CA at *
    have C1 := C _ (one_alloc w (.cells #[.slice a1 SA c1, .slice a2 CA c2] 38))
    clear C
    go_enter Try.func13, Try.ntmps13
    go_wp2_with fail
    refine C1.mono ?_
    rintro e w1 ⟨⟨r, rfl, hr⟩, hb1⟩
    have HR := hide hr
    clear hr
    go_wp2
    go_ret
    exact ⟨⟨_, rfl, fun h => HR.out (by simpa using h)⟩, (one_alloc _ _).trans (hb1.mono (one_alloc _ _).size)⟩
end Go.Proofs.Ytfhcdhkdcegieaa
