/-
  The contract of the document's By, rule by rule.
-/
import Derived.Test.YtmjncdhahdpplaaPkA
namespace Go.Proofs.Ytmjncdhahdpplaa
open Go.ChangeShapes Go.WideShapes Go.ChangeAt Go.RowKit
set_option linter.unusedVariables false
set_option maxRecDepth 100000
/-- The place that a rule names. -/
def ruleL (r : Nat) (s d : List Int) : List Int := if r = 0 then turnL s d 0 else if r = 1 then turnL s d (s.length - 1) else d.reverse
def byR (r : Nat) (s : List Int) (x : Ar) : Ar := .mk s (mkCs (sizeV s).toNat fun i => cAt x.cells (place x.shape (ruleL r s (digits s i))).toNat)
theorem plc_of {l m : List Int} (hs : sizeE l = 0) (h : inAxes l m) : plcV l m = place l m ∧ m.length = l.length := by
  have h2 := (inAxes_iff l m).1 h
  exact ⟨(plc_in hs h2.1 h2.2).1, h2.1⟩
def revK (d : List Int) (k : Nat) : List Int := (List.range d.length).map fun i => if i < k then gI d (d.length - 1 - i) else gI d i
theorem revK_len (d : List Int) (k : Nat) : (revK d k).length = d.length := by simp [revK]
theorem revK_at (d : List Int) (k i : Nat) (hi : i < d.length) : gI (revK d k) i = if i < k then gI d (d.length - 1 - i) else gI d i := by
  have : (revK d k)[i]? = some (if i < k then gI d (d.length - 1 - i) else gI d i) := by simp [revK, hi]
  unfold gI at this ⊢
  rw [this]; rfl
theorem revK_zero (d : List Int) : revK d 0 = d := gI_ext (revK_len _ _) fun i hi => by
  rw [revK_len] at hi; rw [revK_at d 0 i hi, if_neg (by omega)]
theorem revK_end (d : List Int) : revK d d.length = d.reverse := gI_ext (by rw [revK_len, List.length_reverse]) fun i hi => by
  rw [revK_len] at hi; rw [revK_at d _ i hi, if_pos hi, gI_rev d i hi]
theorem revK_step (d : List Int) (k : Nat) (hk : k < d.length) : (revK d k).set k (gI d (d.length - 1 - k)) = revK d (k + 1) := gI_ext (by simp [revK_len]) fun i hi => by
  simp [revK_len] at hi
  rw [gI_set _ _ _ _ (by rw [revK_len]; exact hk), revK_at d k i hi, revK_at d (k + 1) i hi]
  by_cases h : i = k
  · subst h; rw [if_pos rfl, if_pos (by omega)]
  · rw [if_neg h]
    by_cases h2 : i < k
    · rw [if_pos h2, if_pos (by omega)]
    · rw [if_neg h2, if_neg (by omega)]
theorem SoftC.next {w w' : World} {b : Nat} {l : List Int} (h : SoftC w b l) (hb : b < w.heap.size) (hn : Below w.heap.size w w') : SoftC w' b l := fun i hi => ⟨(hn.cell (p := ⟨b, i, none⟩) hb).trans (h i hi).1, (hn.frozen (p := ⟨b, i, none⟩) hb).trans (h i hi).2⟩
theorem GrowC.new {W : World} {o : Nat} {sv : Value} {T : Nat → Value × Value × Value} (c0 : W.cell? ⟨o, 0, none⟩ = some sv) (c1 : W.cell? ⟨o, 1, none⟩ = some (.slice none 0 0)) (f1 : W.frozen? ⟨o, 1, none⟩ = false) : GrowC W o sv T 0 (.slice none 0 0) W :=
  ⟨Below.refl _ _, fun _ _ _ => rfl, c0, c1, f1, World.ownsRow_nil _ _ _ _⟩
set_option maxHeartbeats 8000000 in
theorem rby0_any {n lo lo' : Nat} {s : List Int} {x : Ar} {aS : Option Addr} {cs : Nat} {va : Value} {w0 w : World} (Rs : Row lo' w aS s) (hx : ArIn (n + 1) lo w0 x va) (hb0 : Below w0.heap.size w0 w) (hsE : sizeE s = 0) (hxE : sizeE x.shape = 0) (hc16 : x.cells.length ≤ 16384)
    (hin : ∀ d, inAxes s d → inAxes x.shape (ruleL 0 s d) ∧ place x.shape (ruleL 0 s d) < x.cells.length) :
    Calls Try.prog 41 #[.slice aS s.length cs, va, .int .i64 0] w fun e w' => GivesZ (n + 1) w0 (byR 0 s x) w e w' := by
  obtain ⟨a1, c1, a2, c2, rfl, R, hc⟩ := hx.form
  have HB0 := hide hb0
  obtain ⟨i3, hi3, hz30, hz31, hz32⟩ := infoI3
  obtain ⟨i0, hi0, hz00, hz01, hz02⟩ := info33'
  have hs8 : s.length ≤ 8 := by have := (fine_cases hsE).1; exact this
  obtain ⟨N, hN⟩ : ∃ N : Nat, sizeV s = (N : Int) := ⟨(sizeV s).toNat, by have := (sizeV_le hsE).1; omega⟩
  have hN16 : N ≤ 16384 := by have := (sizeV_le hsE).2; omega
  obtain ⟨ab, cb, hcf⟩ := cells_fn hc
  obtain ⟨T, hT⟩ : ∃ T : Nat → Value × Value × Value, ∀ i, T i = cellT x.cells ab cb (place x.shape (ruleL 0 s (digits s i))).toNat := ⟨fun i => cellT x.cells ab cb (place x.shape (ruleL 0 s (digits s i))).toNat, fun i => rfl⟩
  have HTT := hide hT
  have HP : Hid (∀ i : Nat, i < N → (∀ z ∈ s, 0 < z) ∧ inAxes s (digits s i) ∧ ∃ p : Nat, place x.shape (ruleL 0 s (digits s i)) = (p : Int) ∧ p < x.cells.length ∧ plcV x.shape (ruleL 0 s (digits s i)) = (p : Int) ∧ (ruleL 0 s (digits s i)).length = x.shape.length) := by
    intro i hi
    obtain ⟨-, hp, hpr, -⟩ := sizeV_in (l := s) (n := (i : Int)) hsE (by omega) (by omega)
    have hd := (digits_in (l := s) hp (n := (i : Int)) (by omega) (by omega)).1
    obtain ⟨h1, h2⟩ := hin _ hd
    obtain ⟨-, b0, -, -⟩ := place_bound h1
    obtain ⟨e1, e2⟩ := plc_of hxE h1
    refine ⟨hp, hd, (place x.shape (ruleL 0 s (digits s i))).toNat, by omega, by omega, by omega, e2⟩
  have I := in2_new w (.slice a1 x.shape.length c1) (.slice a2 x.cells.length c2)
  obtain ⟨W2, e2⟩ : ∃ W2, (w.alloc (.cells #[.slice a1 x.shape.length c1, .slice a2 x.cells.length c2] 25)).alloc (.cells #[.slice none 0 0, .slice none 0 0] 25) = W2 := ⟨_, rfl⟩
  rw [e2] at I
  have z2 : W2.heap.size = w.heap.size + 2 := by rw [← e2]; simp
  have C := rsize_any s aS cs W2 (Rs.next I.bel)
  rw [hN] at C
  generalize sizeE s = EE at C
  have HI := hide I
  have HR := hide (And.intro Rs (And.intro R hc))
  have HZ2 := hide z2
  have HCF := hide hcf
  have HN := hide hN
  have HSE := hide (And.intro hsE hxE)
  obtain ⟨SX, hSX⟩ : ∃ SX, x.shape.length = SX := ⟨_, rfl⟩
  obtain ⟨CX, hCX⟩ : ∃ CX, x.cells.length = CX := ⟨_, rfl⟩
  obtain ⟨SS, hSS⟩ : ∃ SS, s.length = SS := ⟨_, rfl⟩
  have HSC := hide (And.intro hSX (And.intro hCX hSS))
  simp only [hSX, hCX, hSS] at C e2 HI HCF HP hc16 hs8 ⊢
  clear R hc I hx hSX hCX hSS hin hcf hT Rs hsE hxE hN
  go_enter Try.func41, Try.ntmps41
  go_wp2_with fail
  refine C.mono ?_
  rintro e w1 ⟨rfl, rfl⟩
  clear e2 C
  obtain ⟨W3, e3⟩ : ∃ W3, w1.alloc (.cells #[.slice none 0 0, .slice none 0 0] 25) = W3 := ⟨_, rfl⟩
  have z3 : W3.heap.size = w.heap.size + 3 := by rw [← e3]; simp [z2]
  have B3 : Below w1.heap.size w1 W3 := by rw [← e3]; exact one_alloc _ _
  have o0 : W3.cell? ⟨w.heap.size + 2, 0, none⟩ = some (.slice none 0 0) := by rw [← e3, ← z2]; exact cell_new0 w1 _ 25 0 _ rfl
  have o1 : W3.cell? ⟨w.heap.size + 2, 1, none⟩ = some (.slice none 0 0) := by rw [← e3, ← z2]; exact cell_new0 w1 _ 25 1 _ rfl
  have of0 : W3.frozen? ⟨w.heap.size + 2, 0, none⟩ = false := by rw [← e3, ← z2]; exact frozen_new w1 _ 25 0
  have of1 : W3.frozen? ⟨w.heap.size + 2, 1, none⟩ = false := by rw [← e3, ← z2]; exact frozen_new w1 _ 25 1
  have I3 := HI.out.next B3
  have HLS : Hid (Lies W3 aS (s.map (Value.int .i64))) := Lies.row_next HR.out.1 I3.bel
  have hsl : (s.map (Value.int .i64)).length = SS * 1 := by rw [List.length_map, HSC.out.2.2]; omega
  have HI3 := hide I3
  have HO := hide (And.intro o1 of1)
  clear I3 B3
  subst e3
  go_wp2_with (at_builtin; refine wpList_append_any rfl _ _ 22 rfl (w1.alloc (.cells #[.slice none 0 0, .slice none 0 0] 25)).heap.size 3 i3 (.int .i64 0) 1 8 Try.underlying22 hi3 hz30 hz31 hz32 rfl (by decide) (.slice none 0 0) 0 [] rfl (World.ownsRow_nil _ _ _ _) aS SS cs (s.map (Value.int .i64)) rfl hsl HLS.out ?c3 ?c4 (Nat.le_refl _) ?_)
  case c3 => unfold maxLen; omega
  case c4 => omega
  intro v' w4 hown4 hb4
  obtain ⟨W3, e3⟩ : ∃ W3, w1.alloc (.cells #[.slice none 0 0, .slice none 0 0] 25) = W3 := ⟨_, rfl⟩
  rw [e3] at hb4 z3 o0 o1 of0 of1 HI3 HO
  rw [← z3] at hown4 hb4
  clear e3
  obtain ⟨al, cl, rfl, RL⟩ := owns_rowE s (by rw [HSC.out.2.2]; omega) (by rw [HSC.out.2.2]; exact hown4)
  rw [HSC.out.2.2]
  have d0 : w4.cell? ⟨w.heap.size + 2, 0, none⟩ = some (.slice none 0 0) := (hb4.cell (p := ⟨w.heap.size + 2, 0, none⟩) (by show w.heap.size + 2 < _; omega)).trans o0
  have df0 : w4.frozen? ⟨w.heap.size + 2, 0, none⟩ = false := (hb4.frozen (p := ⟨w.heap.size + 2, 0, none⟩) (by show w.heap.size + 2 < _; omega)).trans of0
  obtain ⟨w5, e5⟩ : ∃ w5, w4.setCell ⟨w.heap.size + 2, 0, none⟩ (.slice al SS cl) = w5 := ⟨_, rfl⟩
  have z5 : w5.heap.size = w4.heap.size := by rw [← e5]; simp
  have I5 : In2 w (.slice a1 SX c1) (.slice a2 CX c2) w5 := by rw [← e5]; exact (HI3.out.belowS hb4 (by omega)).set (by omega) _
  have t0 : w5.cell? ⟨w.heap.size + 2, 0, none⟩ = some (.slice al SS cl) := by rw [← e5]; exact World.cell?_setCell_same' _ _ _ (by rw [d0]; rfl)
  have t1 : w5.cell? ⟨w.heap.size + 2, 1, none⟩ = some (.slice none 0 0) := by rw [← e5, World.cell?_setCell_other _ _ _ _ (by simp)]; exact (hb4.cell (p := ⟨w.heap.size + 2, 1, none⟩) (by show w.heap.size + 2 < _; omega)).trans HO.out.1
  have tf1 : w5.frozen? ⟨w.heap.size + 2, 1, none⟩ = false := by rw [← e5]; exact frozen_set _ _ _ _ ((hb4.frozen (p := ⟨w.heap.size + 2, 1, none⟩) (by show w.heap.size + 2 < _; omega)).trans HO.out.2)
  have K5 : Keeps W3.heap.size w4 w5 := by rw [← e5]; exact (Keeps.refl _ _).setCell (p := ⟨w.heap.size + 2, 0, none⟩) (by show w.heap.size + 2 < _; omega) _
  have HRL := hide (RL.keeps K5)
  have HG5 := hide (GrowC.new (T := T) t0 t1 tf1)
  have HI5 := hide I5
  have HZ : Hid (w.heap.size + 3 ≤ w5.heap.size ∧ W3.heap.size = w.heap.size + 3) := ⟨by have := hb4.size; omega, z3⟩
  clear hown4 hb4 RL K5 t0 t1 tf1 z5 HO HI3 HI HLS hsl o0 o1 of0 of1 I5 z3 z2
  go_wp2
  clear e5 d0 df0
  go_loopg [10] N (fun g i wr => ∃ (t : Nat) (v : Value), g + t = N ∧ i = .int .i64 (t : Int) ∧ GrowC w5 (w.heap.size + 2) (.slice al SS cl) T t v wr)
  case atStart => exact ⟨0, _, rfl, rfl, HG5.out⟩
  case round =>
    clear HG5
    obtain ⟨t, v, hg, rfl, hgr⟩ := hrel
    obtain ⟨wo, hwo⟩ : ∃ wo, wo = wr := ⟨_, rfl⟩
    subst hwo
    have HGR := hide hgr
    have hz := HZ.out
    have BW := hgr.below (B := w.heap.size + 2) (Nat.le_refl _) (by omega)
    have I6 : In2 w (.slice a1 SX c1) (.slice a2 CX c2) wo := HI5.out.belowS BW (Nat.le_refl _)
    by_cases hlt : t < N
    · obtain ⟨hpos, hdin, p, hp1, hp2, hp3, hp4⟩ := HP.out t hlt
      have C := rplaces_any s (t : Int) aS cs wo (HR.out.1.next I6.bel)
      rw [HSC.out.2.2] at C
      have HI6 := hide I6
      clear I6 hgr BW
      go_wp2_with fail
      refine C.mono ?_
      clear C
      rintro e w6 ⟨hb6, -, -, h4⟩
      obtain ⟨b, rfl, RD, -, -⟩ := h4 HSE.out.1 (by omega) (by rw [HN.out]; omega)
      clear h4
      rw [HSC.out.2.2]
      obtain ⟨D, hD⟩ : ∃ D, digits s (t : Int) = D := ⟨_, rfl⟩
      have hDl : D.length = SS := by rw [← hD, digits_length, HSC.out.2.2]
      rw [hD] at RD hp1 hp3 hp4 hdin
      have HPL := hide (And.intro hp1 (And.intro hp3 (And.intro hp4 hdin)))
      have HDR : Hid (∀ j, j < SS → b < w6.heap.size ∧ w6.cell? ⟨b, j, none⟩ = some (.int .i64 (gI D j))) := fun j hj => by
        obtain ⟨b', off', hbo, hb', hcc⟩ := row_at RD (j := j) (by omega)
        simp only [Option.some.injEq, Addr.mk.injEq, and_true] at hbo
        obtain ⟨rfl, rfl⟩ := hbo
        rw [Nat.zero_add] at hcc
        exact ⟨hb', hcc⟩
      have HB6 := hide hb6
      have HDD := hide (And.intro hD hDl)
      have HPOS := hide hpos
      clear hp1 hp3 hp4 hdin hD hb6 RD hpos
      go_wp2
      go_loopg [13, 14] SS (fun g mv i wq => ∃ k : Nat, g + k = SS ∧ i = .int .i64 (k : Int) ∧ Below w6.heap.size w6 wq ∧ wq.ownsRow w6.heap.size 3 1 mv k ((D.take k).map (Value.int .i64)))
      case atStart => exact ⟨0, rfl, rfl, Below.refl _ _, World.ownsRow_nil _ _ _ _⟩
      case round =>
        obtain ⟨k, hgk, rfl, hnx, hown⟩ := hrel
        by_cases hlk : k < SS
        · obtain ⟨hbl, hck⟩ := HDR.out k hlk
          have hc1 : wr.cell? ⟨b, k, none⟩ = some (.int .i64 (gI D k)) := (hnx.cell (p := ⟨b, k, none⟩) hbl).trans hck
          have HST := hide (take_map_step D k (by rw [HDD.out.2]; exact hlk))
          generalize gI D k = z at *
          have OWN := hown.alloc (.cells #[.int .i64 z] 3)
          have HNW : Hid (∀ i u, [Value.int .i64 z][i]? = some u → (wr.alloc (.cells #[.int .i64 z] 3)).cell? ((⟨wr.heap.size, 0, none⟩ : Addr).add i) = some u) := by
            intro i u hu
            rw [add_off, Nat.zero_add]
            exact cell_new0 wr _ 3 i u (by simpa using hu)
          have HZZ : Hid (w6.heap.size ≤ (wr.alloc (.cells #[.int .i64 z] 3)).heap.size) := Nat.le_trans hnx.size (one_alloc _ _).size
          have HNX := hide (hnx.trans ((one_alloc wr (.cells #[.int .i64 z] 3)).mono hnx.size))
          clear hown hck hbl
          go_wp2_with (at_builtin; refine wpList_append_B rfl _ _ 22 rfl w6.heap.size 3 i3 (.int .i64 0) 1 8 Try.underlying22 hi3 hz30 hz31 hz32 rfl (by decide) _ _ _ rfl OWN ⟨wr.heap.size, 0, none⟩ 1 1 [.int .i64 z] rfl rfl HNW.out ?c2 ?c3 ?c4 HZZ.out ?_)
          case c2 =>
            intro u hu
            simp at hu
            subst hu
            rfl
          case c3 => unfold maxLen; omega
          case c4 => omega
          intro v' w1 hown1 hb1
          have hown2 : w1.ownsRow w6.heap.size 3 1 v' (k + 1) ((D.take (k + 1)).map (Value.int .i64)) := by rw [HST.out]; simpa using hown1
          have HF := hide (And.intro (HNX.out.trans hb1) hown2)
          clear hown1 hown2 hb1 OWN HNW HZZ HNX HST hc1 hnx
          go_wp2
          go_roundg (SS - (k + 1))
          case rel => exact ⟨k + 1, by omega, by go_num, HF.out⟩
          case measure => omega
        · have hke : k = SS := by omega
          subst hke
          rw [List.take_of_length_le (by rw [HDD.out.2]; omega)] at hown
          have HBW0 : Hid (Below wo.heap.size wo wr) := HB6.out.trans (hnx.mono HB6.out.size)
          by_cases hk0 : k = 0
          · subst hk0
            have hD0 : D = [] := List.eq_nil_of_length_eq_zero HDD.out.2
            have hrD : ruleL 0 s D = D := by rw [hD0]; simp [ruleL, turnL]
            obtain ⟨af, cf, rfl, RF0⟩ := owns_rowE D (by rw [HDD.out.2]; omega) (by rw [HDD.out.2]; exact hown)
            rw [HDD.out.2]
            have hrl : (ruleL 0 s D).length = 0 := by rw [hrD]; exact HDD.out.2
            have RF := RF0
            rw [← hrD] at RF
            have HBW := HBW0
            clear hown hnx RF0 HBW0 hrD hD0
            have hz := HZ.out
            have HGB : Below w5.heap.size wo wr := HBW.out.mono HGR.out.io.size
            have BW2 : Below (w.heap.size + 2) w5 wr := (HGR.out.below (B := w.heap.size + 2) (Nat.le_refl _) (by omega)).trans (HGB.mono (by omega))
            have I7 : In2 w (.slice a1 SX c1) (.slice a2 CX c2) wr := HI5.out.belowS BW2 (Nat.le_refl _)
            have C9 := rplace_any x.shape (ruleL 0 s D) a1 af c1 cf wr (HR.out.2.1.next (HB0.out.trans (I7.bel.mono HB0.out.size))) RF
            rw [HPL.out.2.1, hrl, HSC.out.1] at C9
            generalize plcE x.shape (ruleL 0 s D) = PE at C9
            have q0 := I7.q0
            have HGB2 := hide HGB
            have HI7 := hide I7
            clear RF I7 BW2 HGB hrl
            go_wp2_with fail
            refine C9.mono ?_
            clear C9 q0
            rintro e w9 ⟨rfl, hb9⟩
            have HG9 := hide (HGB2.out.trans (hb9.mono (Nat.le_trans HGR.out.io.size HGB2.out.size)))
            have HB9 := hide (HBW.out.trans (hb9.mono HBW.out.size))
            have I9 := HI7.out.next hb9
            obtain ⟨bb, off, rfl, -, hbb, hcells⟩ := HCF.out (by omega)
            obtain ⟨g0, g1, g2, -⟩ := hcells p hp2
            have HTi : Hid (T t = (.int .i64 (cAt x.cells p).1, .int .i64 (cAt x.cells p).2.1, .slice (ab p) (cAt x.cells p).2.2.length (cb p))) := by unfold Hid; rw [HTT.out, HDD.out.1, HPL.out.1]; rfl
            have hbw := HB0.out.trans (I9.bel.mono HB0.out.size)
            have u0 := (hbw.cell (p := ⟨bb, off + p * 3, none⟩) hbb).trans g0
            have u1 := (hbw.cell (p := ⟨bb, off + p * 3 + 1, none⟩) hbb).trans g1
            have u2 := (hbw.cell (p := ⟨bb, off + p * 3 + 2, none⟩) hbb).trans g2
            have r1 := I9.q1
            have hp5 : (0 : Int) ≤ (p : Int) := by omega
            have hp6 : (p : Int) < (CX : Int) := by omega
            clear g0 g1 g2 hcells
            generalize (cAt x.cells p).1 = kk at *
            generalize (cAt x.cells p).2.1 = NN at *
            generalize (cAt x.cells p).2.2.length = nb at *
            generalize ab p = abp at *
            generalize cb p = cbp at *
            have d1' := (HG9.out.cell (p := ⟨w.heap.size + 2, 1, none⟩) (by show w.heap.size + 2 < _; omega)).trans HGR.out.c1
            have d2' := (HG9.out.frozen (p := ⟨w.heap.size + 2, 1, none⟩) (by show w.heap.size + 2 < _; omega)).trans HGR.out.f1
            have BA := one_alloc w9 (.cells #[.int .i64 kk, .int .i64 NN, .slice abp nb cbp] 36)
            have hs9 := I9.size
            have hs59 : w5.heap.size ≤ w9.heap.size := Nat.le_trans HGR.out.io.size HG9.out.size
            have x0 : (w9.alloc (.cells #[.int .i64 kk, .int .i64 NN, .slice abp nb cbp] 36)).cell? ⟨w.heap.size + 2, 1, none⟩ = some v := (BA.cell (p := ⟨w.heap.size + 2, 1, none⟩) (by show w.heap.size + 2 < _; omega)).trans d1'
            have HSTEP : Hid (rowT T (t + 1) = rowT T t ++ [.int .i64 kk, .int .i64 NN, .slice abp nb cbp]) := by unfold Hid; rw [rowT_step, HTi.out]
            have OW9 : w9.ownsRow w5.heap.size 36 3 v t (rowT T t) := owns_below HGR.out.own HB9.out
            have HOWN : Hid ((w9.alloc (.cells #[.int .i64 kk, .int .i64 NN, .slice abp nb cbp] 36)).drew.ownsRow w5.heap.size 36 3 v t (rowT T t)) := OW9.alloc (.cells #[.int .i64 kk, .int .i64 NN, .slice abp nb cbp] 36)
            have HNEWS : Hid (∀ i u, [Value.int .i64 kk, .int .i64 NN, .slice abp nb cbp][i]? = some u → (w9.alloc (.cells #[.int .i64 kk, .int .i64 NN, .slice abp nb cbp] 36)).drew.cell? ((⟨w9.heap.size, 0, none⟩ : Addr).add i) = some u) := by
              intro i u hu
              rw [add_off, Nat.zero_add]
              exact cell_new0 w9 _ 36 i u (by simpa using hu)
            have HONE : Hid (∀ u ∈ [Value.int .i64 kk, .int .i64 NN, .slice abp nb cbp], u.oneCell' = true) := by
              intro u hu
              simp at hu
              rcases hu with rfl | rfl | rfl <;> rfl
            have HMAX : Hid (t + 1 ≤ maxLen ∧ (t + 1) * 40 ≤ 140737488355328 ∧ w5.heap.size ≤ (w9.alloc (.cells #[.int .i64 kk, .int .i64 NN, .slice abp nb cbp] 36)).drew.heap.size) := by
              refine ⟨by unfold maxLen; omega, by omega, ?_⟩
              have : (w9.alloc (.cells #[.int .i64 kk, .int .i64 NN, .slice abp nb cbp] 36)).drew.heap.size = w9.heap.size + 1 := by simp
              omega
            have HAB : Hid (Below w5.heap.size wo (w9.alloc (.cells #[.int .i64 kk, .int .i64 NN, .slice abp nb cbp] 36)).drew) := (HG9.out.trans ((Below.refl _ _).alloc (by show _ ≤ w9.heap.size; omega) _)).drew
            have hO1 : Hid (w.heap.size + 2 < w5.heap.size) := by unfold Hid; omega
            clear I9 hs9 hbw BA HTi hbb HCF hb9 HG9 OW9 HI7 HPL HDD HDR HB6 HTT HSC HN HR HP HI6 HI5 HSE HGB2 hs59 HBW HB9
            go_wp2
            go_region_law (refine step_append_own rfl (.tmp 116) (.tmp 122) 23 rfl w5.heap.size 36 i0 (.agg #[.int .i64 0, .int .i64 0, .slice none 0 0]) 3 40 Try.underlying23 hi0 hz00 hz01 hz02 rfl (by decide) v t (rowT T t) rfl HOWN.out ⟨w9.heap.size, 0, none⟩ 1 1 [.int .i64 kk, .int .i64 NN, .slice abp nb cbp] rfl rfl HNEWS.out HONE.out HMAX.out.1 HMAX.out.2.1 HMAX.out.2.2 ?_; intro v' w1 hown1 hb1; obtain ⟨g, cp, rfl, -⟩ := owns_form hown1 (Nat.succ_pos t); have dd1 := (HAB.out.trans hb1).cell (p := ⟨w.heap.size + 2, 1, none⟩) hO1.out |>.trans HGR.out.c1; have dd3 := (HAB.out.trans hb1).frozen (p := ⟨w.heap.size + 2, 1, none⟩) hO1.out |>.trans HGR.out.f1)
            all_goals
              have hown2 : w1.ownsRow w5.heap.size 36 3 (.slice (some ⟨g, 0, none⟩) (t + 1) cp) (t + 1) (rowT T (t + 1)) := by rw [HSTEP.out]; exact hown1
              have HNX := hide (HGR.out.step hO1.out (HAB.out.trans hb1) hown2)
              clear hown1 hown2 hb1 dd1 dd3 HOWN HNEWS HONE HMAX HAB HGR HSTEP x0 u0 u1 u2 r1
              go_wp2
              go_roundg (N - (t + 1))
              case rel => exact ⟨t + 1, _, by omega, by go_num, HNX.out⟩
              case measure => omega
          · obtain ⟨gb, cf, rfl, hgb1, hgb2⟩ := owns_form1' hown (by omega)
            have SC := owns_softC HDD.out.2 hown
            have HBN : Hid (Below w.heap.size w wr) := HI6.out.bel.trans (HBW0.out.mono HI6.out.bel.size)
            obtain ⟨bs, os, rfl, hbs, hsc⟩ := row_at HR.out.1 (j := 0) (by rw [HSC.out.2.2]; omega)
            have u0 := (HBN.out.cell (p := ⟨bs, os + 0, none⟩) hbs).trans hsc
            obtain ⟨hbd, hdc⟩ := HDR.out 0 (by omega)
            have u1 := (hnx.cell (p := ⟨b, 0, none⟩) hbd).trans hdc
            obtain ⟨u2, u3⟩ := SC 0 (by rw [HDD.out.2]; omega)
            have hdi := (inAxes_gI s D).1 HPL.out.2.2.2
            have hdb := hdi.2 0 (by rw [HSC.out.2.2]; omega)
            have hs16 : gI s 0 ≤ 16384 := by
              have := prod_of_mem HPOS.out (z := gI s 0) (getD_mem (by rw [HSC.out.2.2]; omega))
              have h2 := sizeV_prod HSE.out.1
              have h3 := HN.out
              omega
            have es : s[0]?.getD 0 = gI s 0 := rfl
            rw [es] at u0
            have HRU0 : D.set 0 (gI s 0 - 1 - gI D 0) = ruleL 0 s D := by unfold ruleL turnL; rw [if_pos rfl]
            have HRLN : Hid (SX = k) := by unfold Hid; rw [← HPL.out.2.2.1, ← HRU0]; simp [HDD.out.2]
            have HRU : Hid (D.set 0 (gI s 0 - 1 - gI D 0) = ruleL 0 s D) := HRU0
            clear HRU0
            generalize gI s 0 = zs at *
            generalize gI D 0 = zd at *
            have HW : Hid (SoftC (wr.setCell ⟨gb, 0, none⟩ (.int .i64 (zs - 1 - zd))) gb (ruleL 0 s D) ∧ Below wo.heap.size wo (wr.setCell ⟨gb, 0, none⟩ (.int .i64 (zs - 1 - zd)))) := by
              refine ⟨by rw [← HRU.out]; exact SC.set _ (by rw [HDD.out.2]; omega) _, ?_⟩
              exact HBW0.out.setCell (p := ⟨gb, 0, none⟩) (by show _ ≤ gb; exact Nat.le_trans HB6.out.size hgb1) _
            have hwrap : IntKind.i64.wrap (zs - 1) = zs - 1 := IntWalk.i64_in _ ⟨by omega, by omega⟩
            have hwrap2 : IntKind.i64.wrap (zs - 1 - zd) = zs - 1 - zd := IntWalk.i64_in _ ⟨by omega, by omega⟩
            have hk1 : (0 : Int) < (k : Int) := by omega
            skip
            simp only [Nat.add_zero] at u0 u1 u2 u3 hwrap hwrap2 HW
            clear hown hdc hbd SC HBN hsc hbs hdi hdb es HRU hs16
            go_wp2
            go_region
            obtain ⟨W8, e8⟩ : ∃ W8, (wr.setCell ⟨gb, 0, none⟩ (.int .i64 (zs - 1 - zd))).drew = W8 := ⟨_, rfl⟩
            have HW8 : Hid (SoftC W8 gb (ruleL 0 s D) ∧ Below wo.heap.size wo W8) := by rw [← e8]; exact ⟨HW.out.1, HW.out.2.drew⟩
            rw [e8]
            have hrl : (ruleL 0 s D).length = k := by rw [HPL.out.2.2.1, HRLN.out]
            have RF : Row 0 W8 (some ⟨gb, 0, none⟩) (ruleL 0 s D) := SoftC.row HW8.out.1 (by rw [← e8]; simpa using hgb2) (Nat.zero_le _) (by rw [hrl]; omega)
            have HBW : Hid (Below wo.heap.size wo W8) := HW8.out.2
            clear e8 HW8 HW hwrap hwrap2 u0 u1 u2 u3 hnx HBW0
            have hz := HZ.out
            have HGB : Below w5.heap.size wo W8 := HBW.out.mono HGR.out.io.size
            have BW2 : Below (w.heap.size + 2) w5 W8 := (HGR.out.below (B := w.heap.size + 2) (Nat.le_refl _) (by omega)).trans (HGB.mono (by omega))
            have I7 : In2 w (.slice a1 SX c1) (.slice a2 CX c2) W8 := HI5.out.belowS BW2 (Nat.le_refl _)
            have C9 := rplace_any x.shape (ruleL 0 s D) a1 (some ⟨gb, 0, none⟩) c1 cf W8 (HR.out.2.1.next (HB0.out.trans (I7.bel.mono HB0.out.size))) RF
            rw [HPL.out.2.1, hrl, HSC.out.1] at C9
            generalize plcE x.shape (ruleL 0 s D) = PE at C9
            have q0 := I7.q0
            have HGB2 := hide HGB
            have HI7 := hide I7
            clear RF I7 BW2 HGB hrl
            go_wp2_with fail
            refine C9.mono ?_
            clear C9 q0
            rintro e w9 ⟨rfl, hb9⟩
            have HG9 := hide (HGB2.out.trans (hb9.mono (Nat.le_trans HGR.out.io.size HGB2.out.size)))
            have HB9 := hide (HBW.out.trans (hb9.mono HBW.out.size))
            have I9 := HI7.out.next hb9
            obtain ⟨bb, off, rfl, -, hbb, hcells⟩ := HCF.out (by omega)
            obtain ⟨g0, g1, g2, -⟩ := hcells p hp2
            have HTi : Hid (T t = (.int .i64 (cAt x.cells p).1, .int .i64 (cAt x.cells p).2.1, .slice (ab p) (cAt x.cells p).2.2.length (cb p))) := by unfold Hid; rw [HTT.out, HDD.out.1, HPL.out.1]; rfl
            have hbw := HB0.out.trans (I9.bel.mono HB0.out.size)
            have u0 := (hbw.cell (p := ⟨bb, off + p * 3, none⟩) hbb).trans g0
            have u1 := (hbw.cell (p := ⟨bb, off + p * 3 + 1, none⟩) hbb).trans g1
            have u2 := (hbw.cell (p := ⟨bb, off + p * 3 + 2, none⟩) hbb).trans g2
            have r1 := I9.q1
            have hp5 : (0 : Int) ≤ (p : Int) := by omega
            have hp6 : (p : Int) < (CX : Int) := by omega
            clear g0 g1 g2 hcells
            generalize (cAt x.cells p).1 = kk at *
            generalize (cAt x.cells p).2.1 = NN at *
            generalize (cAt x.cells p).2.2.length = nb at *
            generalize ab p = abp at *
            generalize cb p = cbp at *
            have d1' := (HG9.out.cell (p := ⟨w.heap.size + 2, 1, none⟩) (by show w.heap.size + 2 < _; omega)).trans HGR.out.c1
            have d2' := (HG9.out.frozen (p := ⟨w.heap.size + 2, 1, none⟩) (by show w.heap.size + 2 < _; omega)).trans HGR.out.f1
            have BA := one_alloc w9 (.cells #[.int .i64 kk, .int .i64 NN, .slice abp nb cbp] 36)
            have hs9 := I9.size
            have hs59 : w5.heap.size ≤ w9.heap.size := Nat.le_trans HGR.out.io.size HG9.out.size
            have x0 : (w9.alloc (.cells #[.int .i64 kk, .int .i64 NN, .slice abp nb cbp] 36)).cell? ⟨w.heap.size + 2, 1, none⟩ = some v := (BA.cell (p := ⟨w.heap.size + 2, 1, none⟩) (by show w.heap.size + 2 < _; omega)).trans d1'
            have HSTEP : Hid (rowT T (t + 1) = rowT T t ++ [.int .i64 kk, .int .i64 NN, .slice abp nb cbp]) := by unfold Hid; rw [rowT_step, HTi.out]
            have OW9 : w9.ownsRow w5.heap.size 36 3 v t (rowT T t) := owns_below HGR.out.own HB9.out
            have HOWN : Hid ((w9.alloc (.cells #[.int .i64 kk, .int .i64 NN, .slice abp nb cbp] 36)).drew.ownsRow w5.heap.size 36 3 v t (rowT T t)) := OW9.alloc (.cells #[.int .i64 kk, .int .i64 NN, .slice abp nb cbp] 36)
            have HNEWS : Hid (∀ i u, [Value.int .i64 kk, .int .i64 NN, .slice abp nb cbp][i]? = some u → (w9.alloc (.cells #[.int .i64 kk, .int .i64 NN, .slice abp nb cbp] 36)).drew.cell? ((⟨w9.heap.size, 0, none⟩ : Addr).add i) = some u) := by
              intro i u hu
              rw [add_off, Nat.zero_add]
              exact cell_new0 w9 _ 36 i u (by simpa using hu)
            have HONE : Hid (∀ u ∈ [Value.int .i64 kk, .int .i64 NN, .slice abp nb cbp], u.oneCell' = true) := by
              intro u hu
              simp at hu
              rcases hu with rfl | rfl | rfl <;> rfl
            have HMAX : Hid (t + 1 ≤ maxLen ∧ (t + 1) * 40 ≤ 140737488355328 ∧ w5.heap.size ≤ (w9.alloc (.cells #[.int .i64 kk, .int .i64 NN, .slice abp nb cbp] 36)).drew.heap.size) := by
              refine ⟨by unfold maxLen; omega, by omega, ?_⟩
              have : (w9.alloc (.cells #[.int .i64 kk, .int .i64 NN, .slice abp nb cbp] 36)).drew.heap.size = w9.heap.size + 1 := by simp
              omega
            have HAB : Hid (Below w5.heap.size wo (w9.alloc (.cells #[.int .i64 kk, .int .i64 NN, .slice abp nb cbp] 36)).drew) := (HG9.out.trans ((Below.refl _ _).alloc (by show _ ≤ w9.heap.size; omega) _)).drew
            have hO1 : Hid (w.heap.size + 2 < w5.heap.size) := by unfold Hid; omega
            clear I9 hs9 hbw BA HTi hbb HCF hb9 HG9 OW9 HI7 HPL HDD HDR HB6 HTT HSC HN HR HP HI6 HI5 HSE HGB2 hs59 HBW HB9
            go_wp2
            go_region_law (refine step_append_own rfl (.tmp 116) (.tmp 122) 23 rfl w5.heap.size 36 i0 (.agg #[.int .i64 0, .int .i64 0, .slice none 0 0]) 3 40 Try.underlying23 hi0 hz00 hz01 hz02 rfl (by decide) v t (rowT T t) rfl HOWN.out ⟨w9.heap.size, 0, none⟩ 1 1 [.int .i64 kk, .int .i64 NN, .slice abp nb cbp] rfl rfl HNEWS.out HONE.out HMAX.out.1 HMAX.out.2.1 HMAX.out.2.2 ?_; intro v' w1 hown1 hb1; obtain ⟨g, cp, rfl, -⟩ := owns_form hown1 (Nat.succ_pos t); have dd1 := (HAB.out.trans hb1).cell (p := ⟨w.heap.size + 2, 1, none⟩) hO1.out |>.trans HGR.out.c1; have dd3 := (HAB.out.trans hb1).frozen (p := ⟨w.heap.size + 2, 1, none⟩) hO1.out |>.trans HGR.out.f1)
            all_goals
              have hown2 : w1.ownsRow w5.heap.size 36 3 (.slice (some ⟨g, 0, none⟩) (t + 1) cp) (t + 1) (rowT T (t + 1)) := by rw [HSTEP.out]; exact hown1
              have HNX := hide (HGR.out.step hO1.out (HAB.out.trans hb1) hown2)
              clear hown1 hown2 hb1 dd1 dd3 HOWN HNEWS HONE HMAX HAB HGR HSTEP x0 u0 u1 u2 r1
              go_wp2
              go_roundg (N - (t + 1))
              case rel => exact ⟨t + 1, _, by omega, by go_num, HNX.out⟩
              case measure => omega

    · have hte : t = N := by omega
      subst hte
      obtain ⟨g2, cp2, rfl, hcells⟩ := owns_cellsT T hgr.own
      have d0' := hgr.c0
      have d1' := hgr.c1
      have p0 := I6.p0
      have p1 := I6.p1
      have f0 := I6.f0
      have f1 := I6.f1
      have HT := hide (I6.put (.slice al SS cl) (.slice g2 t cp2))
      have HFIN : Hid (∀ u v, GivesZ (n + 1) w0 (byR 0 s x) w (.returned (.agg #[.slice al SS cl, .slice g2 t cp2])) ((wo.setCell ⟨w.heap.size + 1, 0, none⟩ u).setCell ⟨w.heap.size + 1, 1, none⟩ v)) := by
        intro u v
        refine ⟨⟨_, rfl, fun W hW hK => ?_⟩, I6.fin u v⟩
        have hO := HZ.out
        have K1 : Keeps W3.heap.size w5 wo := ⟨hgr.io.size, fun b h1 h2 => hgr.keep b h2 (by omega)⟩
        have K2 : Keeps W3.heap.size wo ((wo.setCell ⟨w.heap.size + 1, 0, none⟩ u).setCell ⟨w.heap.size + 1, 1, none⟩ v) := ((Keeps.refl _ _).setCell (p := ⟨w.heap.size + 1, 0, none⟩) (by show w.heap.size + 1 < _; omega) u).setCell (p := ⟨w.heap.size + 1, 1, none⟩) (by show w.heap.size + 1 < _; omega) v
        have K3 := K2.trans (hK.mono (show w.heap.size ≤ W3.heap.size by omega))
        have RF := (((HRL.out.keeps K1).keeps K3).low (Nat.zero_le _))
        have hcl : (byR 0 s x).cells.length = t := by show (mkCs _ _).length = t; rw [mkCs_len, HN.out]; simp
        refine arIn_mk (x := byR 0 s x) RF (by rw [hcl]; omega) ?_ (by show s.length = SS; exact HSC.out.2.2) hcl
        rcases hcells with h0 | ⟨g, rfl, hg1, hg2, hcc⟩
        · exact Or.inl (List.eq_nil_of_length_eq_zero (by rw [hcl]; exact h0))
        · refine Or.inr ⟨g, 0, rfl, Nat.zero_le _, Nat.lt_of_lt_of_le hg2 K3.1, fun i hi => ?_⟩
          rw [hcl] at hi
          obtain ⟨-, -, p, hp1, hp2, -, -⟩ := HP.out i hi
          obtain ⟨b, off, -, -, hb, hcl2⟩ := HCF.out (by omega)
          obtain ⟨-, -, -, hce⟩ := hcl2 p hp2
          obtain ⟨e0, e1, e2⟩ := hcc i hi
          rw [Nat.zero_add]
          have ap : ∀ (o : Nat) (q : Value), wo.cell? ⟨g, o, none⟩ = some q → W.cell? ⟨g, o, none⟩ = some q := fun o q h => (K3.cell (p := ⟨g, o, none⟩) (by show W3.heap.size ≤ g; omega) hg2).trans h
          refine ⟨_, _, _, ap _ _ e0, ap _ _ e1, ap _ _ e2, ?_⟩
          have ec : cAt (byR 0 s x).cells i = cAt x.cells p := by show cAt (mkCs _ _) i = _; rw [mkCs_at _ _ _ (by rw [HN.out]; simpa using hi), hp1]; rfl
          rw [ec, HTT.out, hp1, Int.toNat_natCast]
          exact hce.mono (Nat.zero_le _) hW fun x v h => h.mono (Nat.zero_le _) hW
      clear I6 hgr HGR HCF hcells BW
      go_wp2
      exact bodyPost_ret (v := .agg #[.slice al SS cl, .slice g2 t cp2]) (by simp [results, Try.results41, go_sem, HT.out.1, HT.out.2]) rfl (HFIN.out _ _)
set_option maxHeartbeats 8000000 in
theorem rby1_any {n lo lo' : Nat} {s : List Int} {x : Ar} {aS : Option Addr} {cs : Nat} {va : Value} {w0 w : World} (Rs : Row lo' w aS s) (hx : ArIn (n + 1) lo w0 x va) (hb0 : Below w0.heap.size w0 w) (hsE : sizeE s = 0) (hxE : sizeE x.shape = 0) (hc16 : x.cells.length ≤ 16384)
    (hin : ∀ d, inAxes s d → inAxes x.shape (ruleL 1 s d) ∧ place x.shape (ruleL 1 s d) < x.cells.length) :
    Calls Try.prog 41 #[.slice aS s.length cs, va, .int .i64 1] w fun e w' => GivesZ (n + 1) w0 (byR 1 s x) w e w' := by
  obtain ⟨a1, c1, a2, c2, rfl, R, hc⟩ := hx.form
  have HB0 := hide hb0
  obtain ⟨i3, hi3, hz30, hz31, hz32⟩ := infoI3
  obtain ⟨i0, hi0, hz00, hz01, hz02⟩ := info33'
  have hs8 : s.length ≤ 8 := by have := (fine_cases hsE).1; exact this
  obtain ⟨N, hN⟩ : ∃ N : Nat, sizeV s = (N : Int) := ⟨(sizeV s).toNat, by have := (sizeV_le hsE).1; omega⟩
  have hN16 : N ≤ 16384 := by have := (sizeV_le hsE).2; omega
  obtain ⟨ab, cb, hcf⟩ := cells_fn hc
  obtain ⟨T, hT⟩ : ∃ T : Nat → Value × Value × Value, ∀ i, T i = cellT x.cells ab cb (place x.shape (ruleL 1 s (digits s i))).toNat := ⟨fun i => cellT x.cells ab cb (place x.shape (ruleL 1 s (digits s i))).toNat, fun i => rfl⟩
  have HTT := hide hT
  have HP : Hid (∀ i : Nat, i < N → (∀ z ∈ s, 0 < z) ∧ inAxes s (digits s i) ∧ ∃ p : Nat, place x.shape (ruleL 1 s (digits s i)) = (p : Int) ∧ p < x.cells.length ∧ plcV x.shape (ruleL 1 s (digits s i)) = (p : Int) ∧ (ruleL 1 s (digits s i)).length = x.shape.length) := by
    intro i hi
    obtain ⟨-, hp, hpr, -⟩ := sizeV_in (l := s) (n := (i : Int)) hsE (by omega) (by omega)
    have hd := (digits_in (l := s) hp (n := (i : Int)) (by omega) (by omega)).1
    obtain ⟨h1, h2⟩ := hin _ hd
    obtain ⟨-, b0, -, -⟩ := place_bound h1
    obtain ⟨e1, e2⟩ := plc_of hxE h1
    refine ⟨hp, hd, (place x.shape (ruleL 1 s (digits s i))).toNat, by omega, by omega, by omega, e2⟩
  have I := in2_new w (.slice a1 x.shape.length c1) (.slice a2 x.cells.length c2)
  obtain ⟨W2, e2⟩ : ∃ W2, (w.alloc (.cells #[.slice a1 x.shape.length c1, .slice a2 x.cells.length c2] 25)).alloc (.cells #[.slice none 0 0, .slice none 0 0] 25) = W2 := ⟨_, rfl⟩
  rw [e2] at I
  have z2 : W2.heap.size = w.heap.size + 2 := by rw [← e2]; simp
  have C := rsize_any s aS cs W2 (Rs.next I.bel)
  rw [hN] at C
  generalize sizeE s = EE at C
  have HI := hide I
  have HR := hide (And.intro Rs (And.intro R hc))
  have HZ2 := hide z2
  have HCF := hide hcf
  have HN := hide hN
  have HSE := hide (And.intro hsE hxE)
  obtain ⟨SX, hSX⟩ : ∃ SX, x.shape.length = SX := ⟨_, rfl⟩
  obtain ⟨CX, hCX⟩ : ∃ CX, x.cells.length = CX := ⟨_, rfl⟩
  obtain ⟨SS, hSS⟩ : ∃ SS, s.length = SS := ⟨_, rfl⟩
  have HSC := hide (And.intro hSX (And.intro hCX hSS))
  simp only [hSX, hCX, hSS] at C e2 HI HCF HP hc16 hs8 ⊢
  clear R hc I hx hSX hCX hSS hin hcf hT Rs hsE hxE hN
  go_enter Try.func41, Try.ntmps41
  go_wp2_with fail
  refine C.mono ?_
  rintro e w1 ⟨rfl, rfl⟩
  clear e2 C
  obtain ⟨W3, e3⟩ : ∃ W3, w1.alloc (.cells #[.slice none 0 0, .slice none 0 0] 25) = W3 := ⟨_, rfl⟩
  have z3 : W3.heap.size = w.heap.size + 3 := by rw [← e3]; simp [z2]
  have B3 : Below w1.heap.size w1 W3 := by rw [← e3]; exact one_alloc _ _
  have o0 : W3.cell? ⟨w.heap.size + 2, 0, none⟩ = some (.slice none 0 0) := by rw [← e3, ← z2]; exact cell_new0 w1 _ 25 0 _ rfl
  have o1 : W3.cell? ⟨w.heap.size + 2, 1, none⟩ = some (.slice none 0 0) := by rw [← e3, ← z2]; exact cell_new0 w1 _ 25 1 _ rfl
  have of0 : W3.frozen? ⟨w.heap.size + 2, 0, none⟩ = false := by rw [← e3, ← z2]; exact frozen_new w1 _ 25 0
  have of1 : W3.frozen? ⟨w.heap.size + 2, 1, none⟩ = false := by rw [← e3, ← z2]; exact frozen_new w1 _ 25 1
  have I3 := HI.out.next B3
  have HLS : Hid (Lies W3 aS (s.map (Value.int .i64))) := Lies.row_next HR.out.1 I3.bel
  have hsl : (s.map (Value.int .i64)).length = SS * 1 := by rw [List.length_map, HSC.out.2.2]; omega
  have HI3 := hide I3
  have HO := hide (And.intro o1 of1)
  clear I3 B3
  subst e3
  go_wp2_with (at_builtin; refine wpList_append_any rfl _ _ 22 rfl (w1.alloc (.cells #[.slice none 0 0, .slice none 0 0] 25)).heap.size 3 i3 (.int .i64 0) 1 8 Try.underlying22 hi3 hz30 hz31 hz32 rfl (by decide) (.slice none 0 0) 0 [] rfl (World.ownsRow_nil _ _ _ _) aS SS cs (s.map (Value.int .i64)) rfl hsl HLS.out ?c3 ?c4 (Nat.le_refl _) ?_)
  case c3 => unfold maxLen; omega
  case c4 => omega
  intro v' w4 hown4 hb4
  obtain ⟨W3, e3⟩ : ∃ W3, w1.alloc (.cells #[.slice none 0 0, .slice none 0 0] 25) = W3 := ⟨_, rfl⟩
  rw [e3] at hb4 z3 o0 o1 of0 of1 HI3 HO
  rw [← z3] at hown4 hb4
  clear e3
  obtain ⟨al, cl, rfl, RL⟩ := owns_rowE s (by rw [HSC.out.2.2]; omega) (by rw [HSC.out.2.2]; exact hown4)
  rw [HSC.out.2.2]
  have d0 : w4.cell? ⟨w.heap.size + 2, 0, none⟩ = some (.slice none 0 0) := (hb4.cell (p := ⟨w.heap.size + 2, 0, none⟩) (by show w.heap.size + 2 < _; omega)).trans o0
  have df0 : w4.frozen? ⟨w.heap.size + 2, 0, none⟩ = false := (hb4.frozen (p := ⟨w.heap.size + 2, 0, none⟩) (by show w.heap.size + 2 < _; omega)).trans of0
  obtain ⟨w5, e5⟩ : ∃ w5, w4.setCell ⟨w.heap.size + 2, 0, none⟩ (.slice al SS cl) = w5 := ⟨_, rfl⟩
  have z5 : w5.heap.size = w4.heap.size := by rw [← e5]; simp
  have I5 : In2 w (.slice a1 SX c1) (.slice a2 CX c2) w5 := by rw [← e5]; exact (HI3.out.belowS hb4 (by omega)).set (by omega) _
  have t0 : w5.cell? ⟨w.heap.size + 2, 0, none⟩ = some (.slice al SS cl) := by rw [← e5]; exact World.cell?_setCell_same' _ _ _ (by rw [d0]; rfl)
  have t1 : w5.cell? ⟨w.heap.size + 2, 1, none⟩ = some (.slice none 0 0) := by rw [← e5, World.cell?_setCell_other _ _ _ _ (by simp)]; exact (hb4.cell (p := ⟨w.heap.size + 2, 1, none⟩) (by show w.heap.size + 2 < _; omega)).trans HO.out.1
  have tf1 : w5.frozen? ⟨w.heap.size + 2, 1, none⟩ = false := by rw [← e5]; exact frozen_set _ _ _ _ ((hb4.frozen (p := ⟨w.heap.size + 2, 1, none⟩) (by show w.heap.size + 2 < _; omega)).trans HO.out.2)
  have K5 : Keeps W3.heap.size w4 w5 := by rw [← e5]; exact (Keeps.refl _ _).setCell (p := ⟨w.heap.size + 2, 0, none⟩) (by show w.heap.size + 2 < _; omega) _
  have HRL := hide (RL.keeps K5)
  have HG5 := hide (GrowC.new (T := T) t0 t1 tf1)
  have HI5 := hide I5
  have HZ : Hid (w.heap.size + 3 ≤ w5.heap.size ∧ W3.heap.size = w.heap.size + 3) := ⟨by have := hb4.size; omega, z3⟩
  clear hown4 hb4 RL K5 t0 t1 tf1 z5 HO HI3 HI HLS hsl o0 o1 of0 of1 I5 z3 z2
  go_wp2
  clear e5 d0 df0
  go_loopg [10] N (fun g i wr => ∃ (t : Nat) (v : Value), g + t = N ∧ i = .int .i64 (t : Int) ∧ GrowC w5 (w.heap.size + 2) (.slice al SS cl) T t v wr)
  case atStart => exact ⟨0, _, rfl, rfl, HG5.out⟩
  case round =>
    clear HG5
    obtain ⟨t, v, hg, rfl, hgr⟩ := hrel
    obtain ⟨wo, hwo⟩ : ∃ wo, wo = wr := ⟨_, rfl⟩
    subst hwo
    have HGR := hide hgr
    have hz := HZ.out
    have BW := hgr.below (B := w.heap.size + 2) (Nat.le_refl _) (by omega)
    have I6 : In2 w (.slice a1 SX c1) (.slice a2 CX c2) wo := HI5.out.belowS BW (Nat.le_refl _)
    by_cases hlt : t < N
    · obtain ⟨hpos, hdin, p, hp1, hp2, hp3, hp4⟩ := HP.out t hlt
      have C := rplaces_any s (t : Int) aS cs wo (HR.out.1.next I6.bel)
      rw [HSC.out.2.2] at C
      have HI6 := hide I6
      clear I6 hgr BW
      go_wp2_with fail
      refine C.mono ?_
      clear C
      rintro e w6 ⟨hb6, -, -, h4⟩
      obtain ⟨b, rfl, RD, -, -⟩ := h4 HSE.out.1 (by omega) (by rw [HN.out]; omega)
      clear h4
      rw [HSC.out.2.2]
      obtain ⟨D, hD⟩ : ∃ D, digits s (t : Int) = D := ⟨_, rfl⟩
      have hDl : D.length = SS := by rw [← hD, digits_length, HSC.out.2.2]
      rw [hD] at RD hp1 hp3 hp4 hdin
      have HPL := hide (And.intro hp1 (And.intro hp3 (And.intro hp4 hdin)))
      have HDR : Hid (∀ j, j < SS → b < w6.heap.size ∧ w6.cell? ⟨b, j, none⟩ = some (.int .i64 (gI D j))) := fun j hj => by
        obtain ⟨b', off', hbo, hb', hcc⟩ := row_at RD (j := j) (by omega)
        simp only [Option.some.injEq, Addr.mk.injEq, and_true] at hbo
        obtain ⟨rfl, rfl⟩ := hbo
        rw [Nat.zero_add] at hcc
        exact ⟨hb', hcc⟩
      have HB6 := hide hb6
      have HDD := hide (And.intro hD hDl)
      have HPOS := hide hpos
      clear hp1 hp3 hp4 hdin hD hb6 RD hpos
      go_wp2
      go_loopg [13, 14] SS (fun g mv i wq => ∃ k : Nat, g + k = SS ∧ i = .int .i64 (k : Int) ∧ Below w6.heap.size w6 wq ∧ wq.ownsRow w6.heap.size 3 1 mv k ((D.take k).map (Value.int .i64)))
      case atStart => exact ⟨0, rfl, rfl, Below.refl _ _, World.ownsRow_nil _ _ _ _⟩
      case round =>
        obtain ⟨k, hgk, rfl, hnx, hown⟩ := hrel
        by_cases hlk : k < SS
        · obtain ⟨hbl, hck⟩ := HDR.out k hlk
          have hc1 : wr.cell? ⟨b, k, none⟩ = some (.int .i64 (gI D k)) := (hnx.cell (p := ⟨b, k, none⟩) hbl).trans hck
          have HST := hide (take_map_step D k (by rw [HDD.out.2]; exact hlk))
          generalize gI D k = z at *
          have OWN := hown.alloc (.cells #[.int .i64 z] 3)
          have HNW : Hid (∀ i u, [Value.int .i64 z][i]? = some u → (wr.alloc (.cells #[.int .i64 z] 3)).cell? ((⟨wr.heap.size, 0, none⟩ : Addr).add i) = some u) := by
            intro i u hu
            rw [add_off, Nat.zero_add]
            exact cell_new0 wr _ 3 i u (by simpa using hu)
          have HZZ : Hid (w6.heap.size ≤ (wr.alloc (.cells #[.int .i64 z] 3)).heap.size) := Nat.le_trans hnx.size (one_alloc _ _).size
          have HNX := hide (hnx.trans ((one_alloc wr (.cells #[.int .i64 z] 3)).mono hnx.size))
          clear hown hck hbl
          go_wp2_with (at_builtin; refine wpList_append_B rfl _ _ 22 rfl w6.heap.size 3 i3 (.int .i64 0) 1 8 Try.underlying22 hi3 hz30 hz31 hz32 rfl (by decide) _ _ _ rfl OWN ⟨wr.heap.size, 0, none⟩ 1 1 [.int .i64 z] rfl rfl HNW.out ?c2 ?c3 ?c4 HZZ.out ?_)
          case c2 =>
            intro u hu
            simp at hu
            subst hu
            rfl
          case c3 => unfold maxLen; omega
          case c4 => omega
          intro v' w1 hown1 hb1
          have hown2 : w1.ownsRow w6.heap.size 3 1 v' (k + 1) ((D.take (k + 1)).map (Value.int .i64)) := by rw [HST.out]; simpa using hown1
          have HF := hide (And.intro (HNX.out.trans hb1) hown2)
          clear hown1 hown2 hb1 OWN HNW HZZ HNX HST hc1 hnx
          go_wp2
          go_roundg (SS - (k + 1))
          case rel => exact ⟨k + 1, by omega, by go_num, HF.out⟩
          case measure => omega
        · have hke : k = SS := by omega
          subst hke
          rw [List.take_of_length_le (by rw [HDD.out.2]; omega)] at hown
          have HBW0 : Hid (Below wo.heap.size wo wr) := HB6.out.trans (hnx.mono HB6.out.size)
          by_cases hk0 : k = 0
          · subst hk0
            have hD0 : D = [] := List.eq_nil_of_length_eq_zero HDD.out.2
            have hrD : ruleL 1 s D = D := by rw [hD0]; simp [ruleL, turnL]
            obtain ⟨af, cf, rfl, RF0⟩ := owns_rowE D (by rw [HDD.out.2]; omega) (by rw [HDD.out.2]; exact hown)
            rw [HDD.out.2]
            have hrl : (ruleL 1 s D).length = 0 := by rw [hrD]; exact HDD.out.2
            have RF := RF0
            rw [← hrD] at RF
            have HBW := HBW0
            clear hown hnx RF0 HBW0 hrD hD0
            have hz := HZ.out
            have HGB : Below w5.heap.size wo wr := HBW.out.mono HGR.out.io.size
            have BW2 : Below (w.heap.size + 2) w5 wr := (HGR.out.below (B := w.heap.size + 2) (Nat.le_refl _) (by omega)).trans (HGB.mono (by omega))
            have I7 : In2 w (.slice a1 SX c1) (.slice a2 CX c2) wr := HI5.out.belowS BW2 (Nat.le_refl _)
            have C9 := rplace_any x.shape (ruleL 1 s D) a1 af c1 cf wr (HR.out.2.1.next (HB0.out.trans (I7.bel.mono HB0.out.size))) RF
            rw [HPL.out.2.1, hrl, HSC.out.1] at C9
            generalize plcE x.shape (ruleL 1 s D) = PE at C9
            have q0 := I7.q0
            have HGB2 := hide HGB
            have HI7 := hide I7
            clear RF I7 BW2 HGB hrl
            go_wp2_with fail
            refine C9.mono ?_
            clear C9 q0
            rintro e w9 ⟨rfl, hb9⟩
            have HG9 := hide (HGB2.out.trans (hb9.mono (Nat.le_trans HGR.out.io.size HGB2.out.size)))
            have HB9 := hide (HBW.out.trans (hb9.mono HBW.out.size))
            have I9 := HI7.out.next hb9
            obtain ⟨bb, off, rfl, -, hbb, hcells⟩ := HCF.out (by omega)
            obtain ⟨g0, g1, g2, -⟩ := hcells p hp2
            have HTi : Hid (T t = (.int .i64 (cAt x.cells p).1, .int .i64 (cAt x.cells p).2.1, .slice (ab p) (cAt x.cells p).2.2.length (cb p))) := by unfold Hid; rw [HTT.out, HDD.out.1, HPL.out.1]; rfl
            have hbw := HB0.out.trans (I9.bel.mono HB0.out.size)
            have u0 := (hbw.cell (p := ⟨bb, off + p * 3, none⟩) hbb).trans g0
            have u1 := (hbw.cell (p := ⟨bb, off + p * 3 + 1, none⟩) hbb).trans g1
            have u2 := (hbw.cell (p := ⟨bb, off + p * 3 + 2, none⟩) hbb).trans g2
            have r1 := I9.q1
            have hp5 : (0 : Int) ≤ (p : Int) := by omega
            have hp6 : (p : Int) < (CX : Int) := by omega
            clear g0 g1 g2 hcells
            generalize (cAt x.cells p).1 = kk at *
            generalize (cAt x.cells p).2.1 = NN at *
            generalize (cAt x.cells p).2.2.length = nb at *
            generalize ab p = abp at *
            generalize cb p = cbp at *
            have d1' := (HG9.out.cell (p := ⟨w.heap.size + 2, 1, none⟩) (by show w.heap.size + 2 < _; omega)).trans HGR.out.c1
            have d2' := (HG9.out.frozen (p := ⟨w.heap.size + 2, 1, none⟩) (by show w.heap.size + 2 < _; omega)).trans HGR.out.f1
            have BA := one_alloc w9 (.cells #[.int .i64 kk, .int .i64 NN, .slice abp nb cbp] 36)
            have hs9 := I9.size
            have hs59 : w5.heap.size ≤ w9.heap.size := Nat.le_trans HGR.out.io.size HG9.out.size
            have x0 : (w9.alloc (.cells #[.int .i64 kk, .int .i64 NN, .slice abp nb cbp] 36)).cell? ⟨w.heap.size + 2, 1, none⟩ = some v := (BA.cell (p := ⟨w.heap.size + 2, 1, none⟩) (by show w.heap.size + 2 < _; omega)).trans d1'
            have HSTEP : Hid (rowT T (t + 1) = rowT T t ++ [.int .i64 kk, .int .i64 NN, .slice abp nb cbp]) := by unfold Hid; rw [rowT_step, HTi.out]
            have OW9 : w9.ownsRow w5.heap.size 36 3 v t (rowT T t) := owns_below HGR.out.own HB9.out
            have HOWN : Hid ((w9.alloc (.cells #[.int .i64 kk, .int .i64 NN, .slice abp nb cbp] 36)).drew.ownsRow w5.heap.size 36 3 v t (rowT T t)) := OW9.alloc (.cells #[.int .i64 kk, .int .i64 NN, .slice abp nb cbp] 36)
            have HNEWS : Hid (∀ i u, [Value.int .i64 kk, .int .i64 NN, .slice abp nb cbp][i]? = some u → (w9.alloc (.cells #[.int .i64 kk, .int .i64 NN, .slice abp nb cbp] 36)).drew.cell? ((⟨w9.heap.size, 0, none⟩ : Addr).add i) = some u) := by
              intro i u hu
              rw [add_off, Nat.zero_add]
              exact cell_new0 w9 _ 36 i u (by simpa using hu)
            have HONE : Hid (∀ u ∈ [Value.int .i64 kk, .int .i64 NN, .slice abp nb cbp], u.oneCell' = true) := by
              intro u hu
              simp at hu
              rcases hu with rfl | rfl | rfl <;> rfl
            have HMAX : Hid (t + 1 ≤ maxLen ∧ (t + 1) * 40 ≤ 140737488355328 ∧ w5.heap.size ≤ (w9.alloc (.cells #[.int .i64 kk, .int .i64 NN, .slice abp nb cbp] 36)).drew.heap.size) := by
              refine ⟨by unfold maxLen; omega, by omega, ?_⟩
              have : (w9.alloc (.cells #[.int .i64 kk, .int .i64 NN, .slice abp nb cbp] 36)).drew.heap.size = w9.heap.size + 1 := by simp
              omega
            have HAB : Hid (Below w5.heap.size wo (w9.alloc (.cells #[.int .i64 kk, .int .i64 NN, .slice abp nb cbp] 36)).drew) := (HG9.out.trans ((Below.refl _ _).alloc (by show _ ≤ w9.heap.size; omega) _)).drew
            have hO1 : Hid (w.heap.size + 2 < w5.heap.size) := by unfold Hid; omega
            clear I9 hs9 hbw BA HTi hbb HCF hb9 HG9 OW9 HI7 HPL HDD HDR HB6 HTT HSC HN HR HP HI6 HI5 HSE HGB2 hs59 HBW HB9
            go_wp2
            go_region_law (refine step_append_own rfl (.tmp 116) (.tmp 122) 23 rfl w5.heap.size 36 i0 (.agg #[.int .i64 0, .int .i64 0, .slice none 0 0]) 3 40 Try.underlying23 hi0 hz00 hz01 hz02 rfl (by decide) v t (rowT T t) rfl HOWN.out ⟨w9.heap.size, 0, none⟩ 1 1 [.int .i64 kk, .int .i64 NN, .slice abp nb cbp] rfl rfl HNEWS.out HONE.out HMAX.out.1 HMAX.out.2.1 HMAX.out.2.2 ?_; intro v' w1 hown1 hb1; obtain ⟨g, cp, rfl, -⟩ := owns_form hown1 (Nat.succ_pos t); have dd1 := (HAB.out.trans hb1).cell (p := ⟨w.heap.size + 2, 1, none⟩) hO1.out |>.trans HGR.out.c1; have dd3 := (HAB.out.trans hb1).frozen (p := ⟨w.heap.size + 2, 1, none⟩) hO1.out |>.trans HGR.out.f1)
            all_goals
              have hown2 : w1.ownsRow w5.heap.size 36 3 (.slice (some ⟨g, 0, none⟩) (t + 1) cp) (t + 1) (rowT T (t + 1)) := by rw [HSTEP.out]; exact hown1
              have HNX := hide (HGR.out.step hO1.out (HAB.out.trans hb1) hown2)
              clear hown1 hown2 hb1 dd1 dd3 HOWN HNEWS HONE HMAX HAB HGR HSTEP x0 u0 u1 u2 r1
              go_wp2
              go_roundg (N - (t + 1))
              case rel => exact ⟨t + 1, _, by omega, by go_num, HNX.out⟩
              case measure => omega
          · obtain ⟨gb, cf, rfl, hgb1, hgb2⟩ := owns_form1' hown (by omega)
            have SC := owns_softC HDD.out.2 hown
            have HBN : Hid (Below w.heap.size w wr) := HI6.out.bel.trans (HBW0.out.mono HI6.out.bel.size)
            obtain ⟨bs, os, rfl, hbs, hsc⟩ := row_at HR.out.1 (j := (k - 1)) (by rw [HSC.out.2.2]; omega)
            have u0 := (HBN.out.cell (p := ⟨bs, os + (k - 1), none⟩) hbs).trans hsc
            obtain ⟨hbd, hdc⟩ := HDR.out (k - 1) (by omega)
            have u1 := (hnx.cell (p := ⟨b, (k - 1), none⟩) hbd).trans hdc
            obtain ⟨u2, u3⟩ := SC (k - 1) (by rw [HDD.out.2]; omega)
            have hdi := (inAxes_gI s D).1 HPL.out.2.2.2
            have hdb := hdi.2 (k - 1) (by rw [HSC.out.2.2]; omega)
            have hs16 : gI s (k - 1) ≤ 16384 := by
              have := prod_of_mem HPOS.out (z := gI s (k - 1)) (getD_mem (by rw [HSC.out.2.2]; omega))
              have h2 := sizeV_prod HSE.out.1
              have h3 := HN.out
              omega
            have es : s[(k - 1)]?.getD 0 = gI s (k - 1) := rfl
            rw [es] at u0
            have HRU0 : D.set (k - 1) (gI s (k - 1) - 1 - gI D (k - 1)) = ruleL 1 s D := by unfold ruleL turnL; rw [if_neg (by decide), if_pos rfl, HSC.out.2.2]
            have HRLN : Hid (SX = k) := by unfold Hid; rw [← HPL.out.2.2.1, ← HRU0]; simp [HDD.out.2]
            have HRU : Hid (D.set (k - 1) (gI s (k - 1) - 1 - gI D (k - 1)) = ruleL 1 s D) := HRU0
            clear HRU0
            generalize gI s (k - 1) = zs at *
            generalize gI D (k - 1) = zd at *
            have HW : Hid (SoftC (wr.setCell ⟨gb, (k - 1), none⟩ (.int .i64 (zs - 1 - zd))) gb (ruleL 1 s D) ∧ Below wo.heap.size wo (wr.setCell ⟨gb, (k - 1), none⟩ (.int .i64 (zs - 1 - zd)))) := by
              refine ⟨by rw [← HRU.out]; exact SC.set _ (by rw [HDD.out.2]; omega) _, ?_⟩
              exact HBW0.out.setCell (p := ⟨gb, (k - 1), none⟩) (by show _ ≤ gb; exact Nat.le_trans HB6.out.size hgb1) _
            have hwrap : IntKind.i64.wrap (zs - 1) = zs - 1 := IntWalk.i64_in _ ⟨by omega, by omega⟩
            have hwrap2 : IntKind.i64.wrap (zs - 1 - zd) = zs - 1 - zd := IntWalk.i64_in _ ⟨by omega, by omega⟩
            have hk1 : (0 : Int) < (k : Int) := by omega
            skip
            skip
            clear hown hdc hbd SC HBN hsc hbs hdi hdb es HRU hs16
            go_wp2
            go_region
            obtain ⟨W8, e8⟩ : ∃ W8, (wr.setCell ⟨gb, (k - 1), none⟩ (.int .i64 (zs - 1 - zd))).drew = W8 := ⟨_, rfl⟩
            have HW8 : Hid (SoftC W8 gb (ruleL 1 s D) ∧ Below wo.heap.size wo W8) := by rw [← e8]; exact ⟨HW.out.1, HW.out.2.drew⟩
            rw [e8]
            have hrl : (ruleL 1 s D).length = k := by rw [HPL.out.2.2.1, HRLN.out]
            have RF : Row 0 W8 (some ⟨gb, 0, none⟩) (ruleL 1 s D) := SoftC.row HW8.out.1 (by rw [← e8]; simpa using hgb2) (Nat.zero_le _) (by rw [hrl]; omega)
            have HBW : Hid (Below wo.heap.size wo W8) := HW8.out.2
            clear e8 HW8 HW hwrap hwrap2 u0 u1 u2 u3 hnx HBW0
            have hz := HZ.out
            have HGB : Below w5.heap.size wo W8 := HBW.out.mono HGR.out.io.size
            have BW2 : Below (w.heap.size + 2) w5 W8 := (HGR.out.below (B := w.heap.size + 2) (Nat.le_refl _) (by omega)).trans (HGB.mono (by omega))
            have I7 : In2 w (.slice a1 SX c1) (.slice a2 CX c2) W8 := HI5.out.belowS BW2 (Nat.le_refl _)
            have C9 := rplace_any x.shape (ruleL 1 s D) a1 (some ⟨gb, 0, none⟩) c1 cf W8 (HR.out.2.1.next (HB0.out.trans (I7.bel.mono HB0.out.size))) RF
            rw [HPL.out.2.1, hrl, HSC.out.1] at C9
            generalize plcE x.shape (ruleL 1 s D) = PE at C9
            have q0 := I7.q0
            have HGB2 := hide HGB
            have HI7 := hide I7
            clear RF I7 BW2 HGB hrl
            go_wp2_with fail
            refine C9.mono ?_
            clear C9 q0
            rintro e w9 ⟨rfl, hb9⟩
            have HG9 := hide (HGB2.out.trans (hb9.mono (Nat.le_trans HGR.out.io.size HGB2.out.size)))
            have HB9 := hide (HBW.out.trans (hb9.mono HBW.out.size))
            have I9 := HI7.out.next hb9
            obtain ⟨bb, off, rfl, -, hbb, hcells⟩ := HCF.out (by omega)
            obtain ⟨g0, g1, g2, -⟩ := hcells p hp2
            have HTi : Hid (T t = (.int .i64 (cAt x.cells p).1, .int .i64 (cAt x.cells p).2.1, .slice (ab p) (cAt x.cells p).2.2.length (cb p))) := by unfold Hid; rw [HTT.out, HDD.out.1, HPL.out.1]; rfl
            have hbw := HB0.out.trans (I9.bel.mono HB0.out.size)
            have u0 := (hbw.cell (p := ⟨bb, off + p * 3, none⟩) hbb).trans g0
            have u1 := (hbw.cell (p := ⟨bb, off + p * 3 + 1, none⟩) hbb).trans g1
            have u2 := (hbw.cell (p := ⟨bb, off + p * 3 + 2, none⟩) hbb).trans g2
            have r1 := I9.q1
            have hp5 : (0 : Int) ≤ (p : Int) := by omega
            have hp6 : (p : Int) < (CX : Int) := by omega
            clear g0 g1 g2 hcells
            generalize (cAt x.cells p).1 = kk at *
            generalize (cAt x.cells p).2.1 = NN at *
            generalize (cAt x.cells p).2.2.length = nb at *
            generalize ab p = abp at *
            generalize cb p = cbp at *
            have d1' := (HG9.out.cell (p := ⟨w.heap.size + 2, 1, none⟩) (by show w.heap.size + 2 < _; omega)).trans HGR.out.c1
            have d2' := (HG9.out.frozen (p := ⟨w.heap.size + 2, 1, none⟩) (by show w.heap.size + 2 < _; omega)).trans HGR.out.f1
            have BA := one_alloc w9 (.cells #[.int .i64 kk, .int .i64 NN, .slice abp nb cbp] 36)
            have hs9 := I9.size
            have hs59 : w5.heap.size ≤ w9.heap.size := Nat.le_trans HGR.out.io.size HG9.out.size
            have x0 : (w9.alloc (.cells #[.int .i64 kk, .int .i64 NN, .slice abp nb cbp] 36)).cell? ⟨w.heap.size + 2, 1, none⟩ = some v := (BA.cell (p := ⟨w.heap.size + 2, 1, none⟩) (by show w.heap.size + 2 < _; omega)).trans d1'
            have HSTEP : Hid (rowT T (t + 1) = rowT T t ++ [.int .i64 kk, .int .i64 NN, .slice abp nb cbp]) := by unfold Hid; rw [rowT_step, HTi.out]
            have OW9 : w9.ownsRow w5.heap.size 36 3 v t (rowT T t) := owns_below HGR.out.own HB9.out
            have HOWN : Hid ((w9.alloc (.cells #[.int .i64 kk, .int .i64 NN, .slice abp nb cbp] 36)).drew.ownsRow w5.heap.size 36 3 v t (rowT T t)) := OW9.alloc (.cells #[.int .i64 kk, .int .i64 NN, .slice abp nb cbp] 36)
            have HNEWS : Hid (∀ i u, [Value.int .i64 kk, .int .i64 NN, .slice abp nb cbp][i]? = some u → (w9.alloc (.cells #[.int .i64 kk, .int .i64 NN, .slice abp nb cbp] 36)).drew.cell? ((⟨w9.heap.size, 0, none⟩ : Addr).add i) = some u) := by
              intro i u hu
              rw [add_off, Nat.zero_add]
              exact cell_new0 w9 _ 36 i u (by simpa using hu)
            have HONE : Hid (∀ u ∈ [Value.int .i64 kk, .int .i64 NN, .slice abp nb cbp], u.oneCell' = true) := by
              intro u hu
              simp at hu
              rcases hu with rfl | rfl | rfl <;> rfl
            have HMAX : Hid (t + 1 ≤ maxLen ∧ (t + 1) * 40 ≤ 140737488355328 ∧ w5.heap.size ≤ (w9.alloc (.cells #[.int .i64 kk, .int .i64 NN, .slice abp nb cbp] 36)).drew.heap.size) := by
              refine ⟨by unfold maxLen; omega, by omega, ?_⟩
              have : (w9.alloc (.cells #[.int .i64 kk, .int .i64 NN, .slice abp nb cbp] 36)).drew.heap.size = w9.heap.size + 1 := by simp
              omega
            have HAB : Hid (Below w5.heap.size wo (w9.alloc (.cells #[.int .i64 kk, .int .i64 NN, .slice abp nb cbp] 36)).drew) := (HG9.out.trans ((Below.refl _ _).alloc (by show _ ≤ w9.heap.size; omega) _)).drew
            have hO1 : Hid (w.heap.size + 2 < w5.heap.size) := by unfold Hid; omega
            clear I9 hs9 hbw BA HTi hbb HCF hb9 HG9 OW9 HI7 HPL HDD HDR HB6 HTT HSC HN HR HP HI6 HI5 HSE HGB2 hs59 HBW HB9
            go_wp2
            go_region_law (refine step_append_own rfl (.tmp 116) (.tmp 122) 23 rfl w5.heap.size 36 i0 (.agg #[.int .i64 0, .int .i64 0, .slice none 0 0]) 3 40 Try.underlying23 hi0 hz00 hz01 hz02 rfl (by decide) v t (rowT T t) rfl HOWN.out ⟨w9.heap.size, 0, none⟩ 1 1 [.int .i64 kk, .int .i64 NN, .slice abp nb cbp] rfl rfl HNEWS.out HONE.out HMAX.out.1 HMAX.out.2.1 HMAX.out.2.2 ?_; intro v' w1 hown1 hb1; obtain ⟨g, cp, rfl, -⟩ := owns_form hown1 (Nat.succ_pos t); have dd1 := (HAB.out.trans hb1).cell (p := ⟨w.heap.size + 2, 1, none⟩) hO1.out |>.trans HGR.out.c1; have dd3 := (HAB.out.trans hb1).frozen (p := ⟨w.heap.size + 2, 1, none⟩) hO1.out |>.trans HGR.out.f1)
            all_goals
              have hown2 : w1.ownsRow w5.heap.size 36 3 (.slice (some ⟨g, 0, none⟩) (t + 1) cp) (t + 1) (rowT T (t + 1)) := by rw [HSTEP.out]; exact hown1
              have HNX := hide (HGR.out.step hO1.out (HAB.out.trans hb1) hown2)
              clear hown1 hown2 hb1 dd1 dd3 HOWN HNEWS HONE HMAX HAB HGR HSTEP x0 u0 u1 u2 r1
              go_wp2
              go_roundg (N - (t + 1))
              case rel => exact ⟨t + 1, _, by omega, by go_num, HNX.out⟩
              case measure => omega

    · have hte : t = N := by omega
      subst hte
      obtain ⟨g2, cp2, rfl, hcells⟩ := owns_cellsT T hgr.own
      have d0' := hgr.c0
      have d1' := hgr.c1
      have p0 := I6.p0
      have p1 := I6.p1
      have f0 := I6.f0
      have f1 := I6.f1
      have HT := hide (I6.put (.slice al SS cl) (.slice g2 t cp2))
      have HFIN : Hid (∀ u v, GivesZ (n + 1) w0 (byR 1 s x) w (.returned (.agg #[.slice al SS cl, .slice g2 t cp2])) ((wo.setCell ⟨w.heap.size + 1, 0, none⟩ u).setCell ⟨w.heap.size + 1, 1, none⟩ v)) := by
        intro u v
        refine ⟨⟨_, rfl, fun W hW hK => ?_⟩, I6.fin u v⟩
        have hO := HZ.out
        have K1 : Keeps W3.heap.size w5 wo := ⟨hgr.io.size, fun b h1 h2 => hgr.keep b h2 (by omega)⟩
        have K2 : Keeps W3.heap.size wo ((wo.setCell ⟨w.heap.size + 1, 0, none⟩ u).setCell ⟨w.heap.size + 1, 1, none⟩ v) := ((Keeps.refl _ _).setCell (p := ⟨w.heap.size + 1, 0, none⟩) (by show w.heap.size + 1 < _; omega) u).setCell (p := ⟨w.heap.size + 1, 1, none⟩) (by show w.heap.size + 1 < _; omega) v
        have K3 := K2.trans (hK.mono (show w.heap.size ≤ W3.heap.size by omega))
        have RF := (((HRL.out.keeps K1).keeps K3).low (Nat.zero_le _))
        have hcl : (byR 1 s x).cells.length = t := by show (mkCs _ _).length = t; rw [mkCs_len, HN.out]; simp
        refine arIn_mk (x := byR 1 s x) RF (by rw [hcl]; omega) ?_ (by show s.length = SS; exact HSC.out.2.2) hcl
        rcases hcells with h0 | ⟨g, rfl, hg1, hg2, hcc⟩
        · exact Or.inl (List.eq_nil_of_length_eq_zero (by rw [hcl]; exact h0))
        · refine Or.inr ⟨g, 0, rfl, Nat.zero_le _, Nat.lt_of_lt_of_le hg2 K3.1, fun i hi => ?_⟩
          rw [hcl] at hi
          obtain ⟨-, -, p, hp1, hp2, -, -⟩ := HP.out i hi
          obtain ⟨b, off, -, -, hb, hcl2⟩ := HCF.out (by omega)
          obtain ⟨-, -, -, hce⟩ := hcl2 p hp2
          obtain ⟨e0, e1, e2⟩ := hcc i hi
          rw [Nat.zero_add]
          have ap : ∀ (o : Nat) (q : Value), wo.cell? ⟨g, o, none⟩ = some q → W.cell? ⟨g, o, none⟩ = some q := fun o q h => (K3.cell (p := ⟨g, o, none⟩) (by show W3.heap.size ≤ g; omega) hg2).trans h
          refine ⟨_, _, _, ap _ _ e0, ap _ _ e1, ap _ _ e2, ?_⟩
          have ec : cAt (byR 1 s x).cells i = cAt x.cells p := by show cAt (mkCs _ _) i = _; rw [mkCs_at _ _ _ (by rw [HN.out]; simpa using hi), hp1]; rfl
          rw [ec, HTT.out, hp1, Int.toNat_natCast]
          exact hce.mono (Nat.zero_le _) hW fun x v h => h.mono (Nat.zero_le _) hW
      clear I6 hgr HGR HCF hcells BW
      go_wp2
      exact bodyPost_ret (v := .agg #[.slice al SS cl, .slice g2 t cp2]) (by simp [results, Try.results41, go_sem, HT.out.1, HT.out.2]) rfl (HFIN.out _ _)
set_option maxHeartbeats 8000000 in
theorem rby2_any {n lo lo' : Nat} {s : List Int} {x : Ar} {aS : Option Addr} {cs : Nat} {va : Value} {w0 w : World} (Rs : Row lo' w aS s) (hx : ArIn (n + 1) lo w0 x va) (hb0 : Below w0.heap.size w0 w) (hsE : sizeE s = 0) (hxE : sizeE x.shape = 0) (hc16 : x.cells.length ≤ 16384)
    (hin : ∀ d, inAxes s d → inAxes x.shape (ruleL 2 s d) ∧ place x.shape (ruleL 2 s d) < x.cells.length) :
    Calls Try.prog 41 #[.slice aS s.length cs, va, .int .i64 2] w fun e w' => GivesZ (n + 1) w0 (byR 2 s x) w e w' := by
  obtain ⟨a1, c1, a2, c2, rfl, R, hc⟩ := hx.form
  have HB0 := hide hb0
  obtain ⟨i3, hi3, hz30, hz31, hz32⟩ := infoI3
  obtain ⟨i0, hi0, hz00, hz01, hz02⟩ := info33'
  have hs8 : s.length ≤ 8 := by have := (fine_cases hsE).1; exact this
  obtain ⟨N, hN⟩ : ∃ N : Nat, sizeV s = (N : Int) := ⟨(sizeV s).toNat, by have := (sizeV_le hsE).1; omega⟩
  have hN16 : N ≤ 16384 := by have := (sizeV_le hsE).2; omega
  obtain ⟨ab, cb, hcf⟩ := cells_fn hc
  obtain ⟨T, hT⟩ : ∃ T : Nat → Value × Value × Value, ∀ i, T i = cellT x.cells ab cb (place x.shape (ruleL 2 s (digits s i))).toNat := ⟨fun i => cellT x.cells ab cb (place x.shape (ruleL 2 s (digits s i))).toNat, fun i => rfl⟩
  have HTT := hide hT
  have HP : Hid (∀ i : Nat, i < N → (∀ z ∈ s, 0 < z) ∧ inAxes s (digits s i) ∧ ∃ p : Nat, place x.shape (ruleL 2 s (digits s i)) = (p : Int) ∧ p < x.cells.length ∧ plcV x.shape (ruleL 2 s (digits s i)) = (p : Int) ∧ (ruleL 2 s (digits s i)).length = x.shape.length) := by
    intro i hi
    obtain ⟨-, hp, hpr, -⟩ := sizeV_in (l := s) (n := (i : Int)) hsE (by omega) (by omega)
    have hd := (digits_in (l := s) hp (n := (i : Int)) (by omega) (by omega)).1
    obtain ⟨h1, h2⟩ := hin _ hd
    obtain ⟨-, b0, -, -⟩ := place_bound h1
    obtain ⟨e1, e2⟩ := plc_of hxE h1
    refine ⟨hp, hd, (place x.shape (ruleL 2 s (digits s i))).toNat, by omega, by omega, by omega, e2⟩
  have I := in2_new w (.slice a1 x.shape.length c1) (.slice a2 x.cells.length c2)
  obtain ⟨W2, e2⟩ : ∃ W2, (w.alloc (.cells #[.slice a1 x.shape.length c1, .slice a2 x.cells.length c2] 25)).alloc (.cells #[.slice none 0 0, .slice none 0 0] 25) = W2 := ⟨_, rfl⟩
  rw [e2] at I
  have z2 : W2.heap.size = w.heap.size + 2 := by rw [← e2]; simp
  have C := rsize_any s aS cs W2 (Rs.next I.bel)
  rw [hN] at C
  generalize sizeE s = EE at C
  have HI := hide I
  have HR := hide (And.intro Rs (And.intro R hc))
  have HZ2 := hide z2
  have HCF := hide hcf
  have HN := hide hN
  have HSE := hide (And.intro hsE hxE)
  obtain ⟨SX, hSX⟩ : ∃ SX, x.shape.length = SX := ⟨_, rfl⟩
  obtain ⟨CX, hCX⟩ : ∃ CX, x.cells.length = CX := ⟨_, rfl⟩
  obtain ⟨SS, hSS⟩ : ∃ SS, s.length = SS := ⟨_, rfl⟩
  have HSC := hide (And.intro hSX (And.intro hCX hSS))
  simp only [hSX, hCX, hSS] at C e2 HI HCF HP hc16 hs8 ⊢
  clear R hc I hx hSX hCX hSS hin hcf hT Rs hsE hxE hN
  go_enter Try.func41, Try.ntmps41
  go_wp2_with fail
  refine C.mono ?_
  rintro e w1 ⟨rfl, rfl⟩
  clear e2 C
  obtain ⟨W3, e3⟩ : ∃ W3, w1.alloc (.cells #[.slice none 0 0, .slice none 0 0] 25) = W3 := ⟨_, rfl⟩
  have z3 : W3.heap.size = w.heap.size + 3 := by rw [← e3]; simp [z2]
  have B3 : Below w1.heap.size w1 W3 := by rw [← e3]; exact one_alloc _ _
  have o0 : W3.cell? ⟨w.heap.size + 2, 0, none⟩ = some (.slice none 0 0) := by rw [← e3, ← z2]; exact cell_new0 w1 _ 25 0 _ rfl
  have o1 : W3.cell? ⟨w.heap.size + 2, 1, none⟩ = some (.slice none 0 0) := by rw [← e3, ← z2]; exact cell_new0 w1 _ 25 1 _ rfl
  have of0 : W3.frozen? ⟨w.heap.size + 2, 0, none⟩ = false := by rw [← e3, ← z2]; exact frozen_new w1 _ 25 0
  have of1 : W3.frozen? ⟨w.heap.size + 2, 1, none⟩ = false := by rw [← e3, ← z2]; exact frozen_new w1 _ 25 1
  have I3 := HI.out.next B3
  have HLS : Hid (Lies W3 aS (s.map (Value.int .i64))) := Lies.row_next HR.out.1 I3.bel
  have hsl : (s.map (Value.int .i64)).length = SS * 1 := by rw [List.length_map, HSC.out.2.2]; omega
  have HI3 := hide I3
  have HO := hide (And.intro o1 of1)
  clear I3 B3
  subst e3
  go_wp2_with (at_builtin; refine wpList_append_any rfl _ _ 22 rfl (w1.alloc (.cells #[.slice none 0 0, .slice none 0 0] 25)).heap.size 3 i3 (.int .i64 0) 1 8 Try.underlying22 hi3 hz30 hz31 hz32 rfl (by decide) (.slice none 0 0) 0 [] rfl (World.ownsRow_nil _ _ _ _) aS SS cs (s.map (Value.int .i64)) rfl hsl HLS.out ?c3 ?c4 (Nat.le_refl _) ?_)
  case c3 => unfold maxLen; omega
  case c4 => omega
  intro v' w4 hown4 hb4
  obtain ⟨W3, e3⟩ : ∃ W3, w1.alloc (.cells #[.slice none 0 0, .slice none 0 0] 25) = W3 := ⟨_, rfl⟩
  rw [e3] at hb4 z3 o0 o1 of0 of1 HI3 HO
  rw [← z3] at hown4 hb4
  clear e3
  obtain ⟨al, cl, rfl, RL⟩ := owns_rowE s (by rw [HSC.out.2.2]; omega) (by rw [HSC.out.2.2]; exact hown4)
  rw [HSC.out.2.2]
  have d0 : w4.cell? ⟨w.heap.size + 2, 0, none⟩ = some (.slice none 0 0) := (hb4.cell (p := ⟨w.heap.size + 2, 0, none⟩) (by show w.heap.size + 2 < _; omega)).trans o0
  have df0 : w4.frozen? ⟨w.heap.size + 2, 0, none⟩ = false := (hb4.frozen (p := ⟨w.heap.size + 2, 0, none⟩) (by show w.heap.size + 2 < _; omega)).trans of0
  obtain ⟨w5, e5⟩ : ∃ w5, w4.setCell ⟨w.heap.size + 2, 0, none⟩ (.slice al SS cl) = w5 := ⟨_, rfl⟩
  have z5 : w5.heap.size = w4.heap.size := by rw [← e5]; simp
  have I5 : In2 w (.slice a1 SX c1) (.slice a2 CX c2) w5 := by rw [← e5]; exact (HI3.out.belowS hb4 (by omega)).set (by omega) _
  have t0 : w5.cell? ⟨w.heap.size + 2, 0, none⟩ = some (.slice al SS cl) := by rw [← e5]; exact World.cell?_setCell_same' _ _ _ (by rw [d0]; rfl)
  have t1 : w5.cell? ⟨w.heap.size + 2, 1, none⟩ = some (.slice none 0 0) := by rw [← e5, World.cell?_setCell_other _ _ _ _ (by simp)]; exact (hb4.cell (p := ⟨w.heap.size + 2, 1, none⟩) (by show w.heap.size + 2 < _; omega)).trans HO.out.1
  have tf1 : w5.frozen? ⟨w.heap.size + 2, 1, none⟩ = false := by rw [← e5]; exact frozen_set _ _ _ _ ((hb4.frozen (p := ⟨w.heap.size + 2, 1, none⟩) (by show w.heap.size + 2 < _; omega)).trans HO.out.2)
  have K5 : Keeps W3.heap.size w4 w5 := by rw [← e5]; exact (Keeps.refl _ _).setCell (p := ⟨w.heap.size + 2, 0, none⟩) (by show w.heap.size + 2 < _; omega) _
  have HRL := hide (RL.keeps K5)
  have HG5 := hide (GrowC.new (T := T) t0 t1 tf1)
  have HI5 := hide I5
  have HZ : Hid (w.heap.size + 3 ≤ w5.heap.size ∧ W3.heap.size = w.heap.size + 3) := ⟨by have := hb4.size; omega, z3⟩
  clear hown4 hb4 RL K5 t0 t1 tf1 z5 HO HI3 HI HLS hsl o0 o1 of0 of1 I5 z3 z2
  go_wp2
  clear e5 d0 df0
  go_loopg [10] N (fun g i wr => ∃ (t : Nat) (v : Value), g + t = N ∧ i = .int .i64 (t : Int) ∧ GrowC w5 (w.heap.size + 2) (.slice al SS cl) T t v wr)
  case atStart => exact ⟨0, _, rfl, rfl, HG5.out⟩
  case round =>
    clear HG5
    obtain ⟨t, v, hg, rfl, hgr⟩ := hrel
    obtain ⟨wo, hwo⟩ : ∃ wo, wo = wr := ⟨_, rfl⟩
    subst hwo
    have HGR := hide hgr
    have hz := HZ.out
    have BW := hgr.below (B := w.heap.size + 2) (Nat.le_refl _) (by omega)
    have I6 : In2 w (.slice a1 SX c1) (.slice a2 CX c2) wo := HI5.out.belowS BW (Nat.le_refl _)
    by_cases hlt : t < N
    · obtain ⟨hpos, hdin, p, hp1, hp2, hp3, hp4⟩ := HP.out t hlt
      have C := rplaces_any s (t : Int) aS cs wo (HR.out.1.next I6.bel)
      rw [HSC.out.2.2] at C
      have HI6 := hide I6
      clear I6 hgr BW
      go_wp2_with fail
      refine C.mono ?_
      clear C
      rintro e w6 ⟨hb6, -, -, h4⟩
      obtain ⟨b, rfl, RD, -, -⟩ := h4 HSE.out.1 (by omega) (by rw [HN.out]; omega)
      clear h4
      rw [HSC.out.2.2]
      obtain ⟨D, hD⟩ : ∃ D, digits s (t : Int) = D := ⟨_, rfl⟩
      have hDl : D.length = SS := by rw [← hD, digits_length, HSC.out.2.2]
      rw [hD] at RD hp1 hp3 hp4 hdin
      have HPL := hide (And.intro hp1 (And.intro hp3 (And.intro hp4 hdin)))
      have HDR : Hid (∀ j, j < SS → b < w6.heap.size ∧ w6.cell? ⟨b, j, none⟩ = some (.int .i64 (gI D j))) := fun j hj => by
        obtain ⟨b', off', hbo, hb', hcc⟩ := row_at RD (j := j) (by omega)
        simp only [Option.some.injEq, Addr.mk.injEq, and_true] at hbo
        obtain ⟨rfl, rfl⟩ := hbo
        rw [Nat.zero_add] at hcc
        exact ⟨hb', hcc⟩
      have HB6 := hide hb6
      have HDD := hide (And.intro hD hDl)
      have HPOS := hide hpos
      clear hp1 hp3 hp4 hdin hD hb6 RD hpos
      go_wp2
      go_loopg [13, 14] SS (fun g mv i wq => ∃ k : Nat, g + k = SS ∧ i = .int .i64 (k : Int) ∧ Below w6.heap.size w6 wq ∧ wq.ownsRow w6.heap.size 3 1 mv k ((D.take k).map (Value.int .i64)))
      case atStart => exact ⟨0, rfl, rfl, Below.refl _ _, World.ownsRow_nil _ _ _ _⟩
      case round =>
        obtain ⟨k, hgk, rfl, hnx, hown⟩ := hrel
        by_cases hlk : k < SS
        · obtain ⟨hbl, hck⟩ := HDR.out k hlk
          have hc1 : wr.cell? ⟨b, k, none⟩ = some (.int .i64 (gI D k)) := (hnx.cell (p := ⟨b, k, none⟩) hbl).trans hck
          have HST := hide (take_map_step D k (by rw [HDD.out.2]; exact hlk))
          generalize gI D k = z at *
          have OWN := hown.alloc (.cells #[.int .i64 z] 3)
          have HNW : Hid (∀ i u, [Value.int .i64 z][i]? = some u → (wr.alloc (.cells #[.int .i64 z] 3)).cell? ((⟨wr.heap.size, 0, none⟩ : Addr).add i) = some u) := by
            intro i u hu
            rw [add_off, Nat.zero_add]
            exact cell_new0 wr _ 3 i u (by simpa using hu)
          have HZZ : Hid (w6.heap.size ≤ (wr.alloc (.cells #[.int .i64 z] 3)).heap.size) := Nat.le_trans hnx.size (one_alloc _ _).size
          have HNX := hide (hnx.trans ((one_alloc wr (.cells #[.int .i64 z] 3)).mono hnx.size))
          clear hown hck hbl
          go_wp2_with (at_builtin; refine wpList_append_B rfl _ _ 22 rfl w6.heap.size 3 i3 (.int .i64 0) 1 8 Try.underlying22 hi3 hz30 hz31 hz32 rfl (by decide) _ _ _ rfl OWN ⟨wr.heap.size, 0, none⟩ 1 1 [.int .i64 z] rfl rfl HNW.out ?c2 ?c3 ?c4 HZZ.out ?_)
          case c2 =>
            intro u hu
            simp at hu
            subst hu
            rfl
          case c3 => unfold maxLen; omega
          case c4 => omega
          intro v' w1 hown1 hb1
          have hown2 : w1.ownsRow w6.heap.size 3 1 v' (k + 1) ((D.take (k + 1)).map (Value.int .i64)) := by rw [HST.out]; simpa using hown1
          have HF := hide (And.intro (HNX.out.trans hb1) hown2)
          clear hown1 hown2 hb1 OWN HNW HZZ HNX HST hc1 hnx
          go_wp2
          go_roundg (SS - (k + 1))
          case rel => exact ⟨k + 1, by omega, by go_num, HF.out⟩
          case measure => omega
        · have hke : k = SS := by omega
          subst hke
          rw [List.take_of_length_le (by rw [HDD.out.2]; omega)] at hown
          have HBW0 : Hid (Below wo.heap.size wo wr) := HB6.out.trans (hnx.mono HB6.out.size)
          by_cases hk0 : k = 0
          · subst hk0
            have hD0 : D = [] := List.eq_nil_of_length_eq_zero HDD.out.2
            have hrD : ruleL 2 s D = D := by rw [hD0]; simp [ruleL]
            obtain ⟨af, cf, rfl, RF0⟩ := owns_rowE D (by rw [HDD.out.2]; omega) (by rw [HDD.out.2]; exact hown)
            rw [HDD.out.2]
            have hrl : (ruleL 2 s D).length = 0 := by rw [hrD]; exact HDD.out.2
            have RF := RF0
            rw [← hrD] at RF
            have HBW := HBW0
            clear hown hnx RF0 HBW0 hrD hD0
            go_wp2
            go_loopg [16] 0 (fun g i wx => i = .int .i64 0 ∧ wx = wr)
            case atStart => exact ⟨rfl, rfl⟩
            case round =>
              obtain ⟨rfl, rfl⟩ := hrel
              have hz := HZ.out
              have HGB : Below w5.heap.size wo wr := HBW.out.mono HGR.out.io.size
              have BW2 : Below (w.heap.size + 2) w5 wr := (HGR.out.below (B := w.heap.size + 2) (Nat.le_refl _) (by omega)).trans (HGB.mono (by omega))
              have I7 : In2 w (.slice a1 SX c1) (.slice a2 CX c2) wr := HI5.out.belowS BW2 (Nat.le_refl _)
              have C9 := rplace_any x.shape (ruleL 2 s D) a1 af c1 cf wr (HR.out.2.1.next (HB0.out.trans (I7.bel.mono HB0.out.size))) RF
              rw [HPL.out.2.1, hrl, HSC.out.1] at C9
              generalize plcE x.shape (ruleL 2 s D) = PE at C9
              have q0 := I7.q0
              have HGB2 := hide HGB
              have HI7 := hide I7
              clear RF I7 BW2 HGB hrl
              go_wp2_with fail
              refine C9.mono ?_
              clear C9 q0
              rintro e w9 ⟨rfl, hb9⟩
              have HG9 := hide (HGB2.out.trans (hb9.mono (Nat.le_trans HGR.out.io.size HGB2.out.size)))
              have HB9 := hide (HBW.out.trans (hb9.mono HBW.out.size))
              have I9 := HI7.out.next hb9
              obtain ⟨bb, off, rfl, -, hbb, hcells⟩ := HCF.out (by omega)
              obtain ⟨g0, g1, g2, -⟩ := hcells p hp2
              have HTi : Hid (T t = (.int .i64 (cAt x.cells p).1, .int .i64 (cAt x.cells p).2.1, .slice (ab p) (cAt x.cells p).2.2.length (cb p))) := by unfold Hid; rw [HTT.out, HDD.out.1, HPL.out.1]; rfl
              have hbw := HB0.out.trans (I9.bel.mono HB0.out.size)
              have u0 := (hbw.cell (p := ⟨bb, off + p * 3, none⟩) hbb).trans g0
              have u1 := (hbw.cell (p := ⟨bb, off + p * 3 + 1, none⟩) hbb).trans g1
              have u2 := (hbw.cell (p := ⟨bb, off + p * 3 + 2, none⟩) hbb).trans g2
              have r1 := I9.q1
              have hp5 : (0 : Int) ≤ (p : Int) := by omega
              have hp6 : (p : Int) < (CX : Int) := by omega
              clear g0 g1 g2 hcells
              generalize (cAt x.cells p).1 = kk at *
              generalize (cAt x.cells p).2.1 = NN at *
              generalize (cAt x.cells p).2.2.length = nb at *
              generalize ab p = abp at *
              generalize cb p = cbp at *
              have d1' := (HG9.out.cell (p := ⟨w.heap.size + 2, 1, none⟩) (by show w.heap.size + 2 < _; omega)).trans HGR.out.c1
              have d2' := (HG9.out.frozen (p := ⟨w.heap.size + 2, 1, none⟩) (by show w.heap.size + 2 < _; omega)).trans HGR.out.f1
              have BA := one_alloc w9 (.cells #[.int .i64 kk, .int .i64 NN, .slice abp nb cbp] 36)
              have hs9 := I9.size
              have hs59 : w5.heap.size ≤ w9.heap.size := Nat.le_trans HGR.out.io.size HG9.out.size
              have x0 : (w9.alloc (.cells #[.int .i64 kk, .int .i64 NN, .slice abp nb cbp] 36)).cell? ⟨w.heap.size + 2, 1, none⟩ = some v := (BA.cell (p := ⟨w.heap.size + 2, 1, none⟩) (by show w.heap.size + 2 < _; omega)).trans d1'
              have HSTEP : Hid (rowT T (t + 1) = rowT T t ++ [.int .i64 kk, .int .i64 NN, .slice abp nb cbp]) := by unfold Hid; rw [rowT_step, HTi.out]
              have OW9 : w9.ownsRow w5.heap.size 36 3 v t (rowT T t) := owns_below HGR.out.own HB9.out
              have HOWN : Hid ((w9.alloc (.cells #[.int .i64 kk, .int .i64 NN, .slice abp nb cbp] 36)).drew.ownsRow w5.heap.size 36 3 v t (rowT T t)) := OW9.alloc (.cells #[.int .i64 kk, .int .i64 NN, .slice abp nb cbp] 36)
              have HNEWS : Hid (∀ i u, [Value.int .i64 kk, .int .i64 NN, .slice abp nb cbp][i]? = some u → (w9.alloc (.cells #[.int .i64 kk, .int .i64 NN, .slice abp nb cbp] 36)).drew.cell? ((⟨w9.heap.size, 0, none⟩ : Addr).add i) = some u) := by
                intro i u hu
                rw [add_off, Nat.zero_add]
                exact cell_new0 w9 _ 36 i u (by simpa using hu)
              have HONE : Hid (∀ u ∈ [Value.int .i64 kk, .int .i64 NN, .slice abp nb cbp], u.oneCell' = true) := by
                intro u hu
                simp at hu
                rcases hu with rfl | rfl | rfl <;> rfl
              have HMAX : Hid (t + 1 ≤ maxLen ∧ (t + 1) * 40 ≤ 140737488355328 ∧ w5.heap.size ≤ (w9.alloc (.cells #[.int .i64 kk, .int .i64 NN, .slice abp nb cbp] 36)).drew.heap.size) := by
                refine ⟨by unfold maxLen; omega, by omega, ?_⟩
                have : (w9.alloc (.cells #[.int .i64 kk, .int .i64 NN, .slice abp nb cbp] 36)).drew.heap.size = w9.heap.size + 1 := by simp
                omega
              have HAB : Hid (Below w5.heap.size wo (w9.alloc (.cells #[.int .i64 kk, .int .i64 NN, .slice abp nb cbp] 36)).drew) := (HG9.out.trans ((Below.refl _ _).alloc (by show _ ≤ w9.heap.size; omega) _)).drew
              have hO1 : Hid (w.heap.size + 2 < w5.heap.size) := by unfold Hid; omega
              clear I9 hs9 hbw BA HTi hbb HCF hb9 HG9 OW9 HI7 HPL HDD HDR HB6 HTT HSC HN HR HP HI6 HI5 HSE HGB2 hs59 HBW HB9
              go_wp2
              go_region_law (refine step_append_own rfl (.tmp 116) (.tmp 122) 23 rfl w5.heap.size 36 i0 (.agg #[.int .i64 0, .int .i64 0, .slice none 0 0]) 3 40 Try.underlying23 hi0 hz00 hz01 hz02 rfl (by decide) v t (rowT T t) rfl HOWN.out ⟨w9.heap.size, 0, none⟩ 1 1 [.int .i64 kk, .int .i64 NN, .slice abp nb cbp] rfl rfl HNEWS.out HONE.out HMAX.out.1 HMAX.out.2.1 HMAX.out.2.2 ?_; intro v' w1 hown1 hb1; obtain ⟨g, cp, rfl, -⟩ := owns_form hown1 (Nat.succ_pos t); have dd1 := (HAB.out.trans hb1).cell (p := ⟨w.heap.size + 2, 1, none⟩) hO1.out |>.trans HGR.out.c1; have dd3 := (HAB.out.trans hb1).frozen (p := ⟨w.heap.size + 2, 1, none⟩) hO1.out |>.trans HGR.out.f1)
              all_goals
                have hown2 : w1.ownsRow w5.heap.size 36 3 (.slice (some ⟨g, 0, none⟩) (t + 1) cp) (t + 1) (rowT T (t + 1)) := by rw [HSTEP.out]; exact hown1
                have HNX := hide (HGR.out.step hO1.out (HAB.out.trans hb1) hown2)
                clear hown1 hown2 hb1 dd1 dd3 HOWN HNEWS HONE HMAX HAB HGR HSTEP x0 u0 u1 u2 r1
                go_wp2
                go_roundg (N - (t + 1))
                case rel => exact ⟨t + 1, _, by omega, by go_num, HNX.out⟩
                case measure => omega
          · obtain ⟨gb, cf, rfl, hgb1, hgb2⟩ := owns_form1' hown (by omega)
            have SC := owns_softC HDD.out.2 hown
            have hk1 : (0 : Int) < (k : Int) := by omega
            have HSTART : Hid (Below wo.heap.size wo wr ∧ gb < wr.heap.size ∧ SoftC wr gb (revK D 0) ∧ Below w6.heap.size w6 wr) := ⟨HBW0.out, hgb2, by rw [revK_zero]; exact SC, hnx⟩
            clear hown SC hnx HBW0
            go_wp2
            go_loopg [16] k (fun g i wx => ∃ j : Nat, g + j = k ∧ i = .int .i64 (j : Int) ∧ Below wo.heap.size wo wx ∧ gb < wx.heap.size ∧ SoftC wx gb (revK D j) ∧ Below w6.heap.size w6 wx)
            case atStart => exact ⟨0, rfl, rfl, HSTART.out⟩
            case round =>
              clear HSTART
              obtain ⟨j, hgj, rfl, hB1, hB2, SC, hB3⟩ := hrel
              by_cases hlj : j < k
              · obtain ⟨q, hq⟩ : ∃ q : Nat, k - 1 - j = q := ⟨_, rfl⟩
                have eq1 : (k : Int) - 1 - (j : Int) = (q : Int) := by omega
                have hqk : q < k := by omega
                obtain ⟨hbd, hdc⟩ := HDR.out q hqk
                have u1 := (hB3.cell (p := ⟨b, q, none⟩) hbd).trans hdc
                obtain ⟨u2, u3⟩ := SC j (by rw [revK_len, HDD.out.2]; exact hlj)
                have HW : Hid (Below wo.heap.size wo (wr.setCell ⟨gb, j, none⟩ (.int .i64 (gI D q))) ∧ gb < (wr.setCell ⟨gb, j, none⟩ (.int .i64 (gI D q))).heap.size ∧ SoftC (wr.setCell ⟨gb, j, none⟩ (.int .i64 (gI D q))) gb (revK D (j + 1)) ∧ Below w6.heap.size w6 (wr.setCell ⟨gb, j, none⟩ (.int .i64 (gI D q)))) := by
                  refine ⟨hB1.setCell (p := ⟨gb, j, none⟩) (by show _ ≤ gb; exact Nat.le_trans HB6.out.size hgb1) _, by simpa using hB2, ?_, hB3.setCell (p := ⟨gb, j, none⟩) hgb1 _⟩
                  have hq' : D.length - 1 - j = q := by rw [HDD.out.2]; exact hq
                  have := SC.set j (by rw [revK_len, HDD.out.2]; exact hlj) (gI D q)
                  rw [← hq', revK_step D j (by rw [HDD.out.2]; exact hlj), hq'] at this
                  exact this
                generalize gI D q = zd at *
                generalize gI (revK D j) j = ze at *
                have hq0 : (0 : Int) ≤ (q : Int) := by omega
                clear hdc hbd SC hB1 hB2 hB3 hq
                go_wp2
                go_roundg (k - (j + 1))
                case rel => exact ⟨j + 1, by omega, by go_num, HW.out⟩
                case measure => omega
              · have hje : j = k := by omega
                subst hje
                have hrl : (ruleL 2 s D).length = j := by show (ruleL 2 s D).length = j; unfold ruleL; rw [if_neg (by decide), if_neg (by decide), List.length_reverse, HDD.out.2]
                have RF : Row 0 wr (some ⟨gb, 0, none⟩) (ruleL 2 s D) := by
                  have h1 : revK D j = ruleL 2 s D := by have := revK_end D; rw [HDD.out.2] at this; rw [this]; rfl
                  rw [h1] at SC
                  exact SoftC.row SC hB2 (Nat.zero_le _) (by rw [hrl]; omega)
                have HBW : Hid (Below wo.heap.size wo wr) := hB1
                clear SC hB1 hB2 hB3
                have hz := HZ.out
                have HGB : Below w5.heap.size wo wr := HBW.out.mono HGR.out.io.size
                have BW2 : Below (w.heap.size + 2) w5 wr := (HGR.out.below (B := w.heap.size + 2) (Nat.le_refl _) (by omega)).trans (HGB.mono (by omega))
                have I7 : In2 w (.slice a1 SX c1) (.slice a2 CX c2) wr := HI5.out.belowS BW2 (Nat.le_refl _)
                have C9 := rplace_any x.shape (ruleL 2 s D) a1 (some ⟨gb, 0, none⟩) c1 cf wr (HR.out.2.1.next (HB0.out.trans (I7.bel.mono HB0.out.size))) RF
                rw [HPL.out.2.1, hrl, HSC.out.1] at C9
                generalize plcE x.shape (ruleL 2 s D) = PE at C9
                have q0 := I7.q0
                have HGB2 := hide HGB
                have HI7 := hide I7
                clear RF I7 BW2 HGB hrl
                go_wp2_with fail
                refine C9.mono ?_
                clear C9 q0
                rintro e w9 ⟨rfl, hb9⟩
                have HG9 := hide (HGB2.out.trans (hb9.mono (Nat.le_trans HGR.out.io.size HGB2.out.size)))
                have HB9 := hide (HBW.out.trans (hb9.mono HBW.out.size))
                have I9 := HI7.out.next hb9
                obtain ⟨bb, off, rfl, -, hbb, hcells⟩ := HCF.out (by omega)
                obtain ⟨g0, g1, g2, -⟩ := hcells p hp2
                have HTi : Hid (T t = (.int .i64 (cAt x.cells p).1, .int .i64 (cAt x.cells p).2.1, .slice (ab p) (cAt x.cells p).2.2.length (cb p))) := by unfold Hid; rw [HTT.out, HDD.out.1, HPL.out.1]; rfl
                have hbw := HB0.out.trans (I9.bel.mono HB0.out.size)
                have u0 := (hbw.cell (p := ⟨bb, off + p * 3, none⟩) hbb).trans g0
                have u1 := (hbw.cell (p := ⟨bb, off + p * 3 + 1, none⟩) hbb).trans g1
                have u2 := (hbw.cell (p := ⟨bb, off + p * 3 + 2, none⟩) hbb).trans g2
                have r1 := I9.q1
                have hp5 : (0 : Int) ≤ (p : Int) := by omega
                have hp6 : (p : Int) < (CX : Int) := by omega
                clear g0 g1 g2 hcells
                generalize (cAt x.cells p).1 = kk at *
                generalize (cAt x.cells p).2.1 = NN at *
                generalize (cAt x.cells p).2.2.length = nb at *
                generalize ab p = abp at *
                generalize cb p = cbp at *
                have d1' := (HG9.out.cell (p := ⟨w.heap.size + 2, 1, none⟩) (by show w.heap.size + 2 < _; omega)).trans HGR.out.c1
                have d2' := (HG9.out.frozen (p := ⟨w.heap.size + 2, 1, none⟩) (by show w.heap.size + 2 < _; omega)).trans HGR.out.f1
                have BA := one_alloc w9 (.cells #[.int .i64 kk, .int .i64 NN, .slice abp nb cbp] 36)
                have hs9 := I9.size
                have hs59 : w5.heap.size ≤ w9.heap.size := Nat.le_trans HGR.out.io.size HG9.out.size
                have x0 : (w9.alloc (.cells #[.int .i64 kk, .int .i64 NN, .slice abp nb cbp] 36)).cell? ⟨w.heap.size + 2, 1, none⟩ = some v := (BA.cell (p := ⟨w.heap.size + 2, 1, none⟩) (by show w.heap.size + 2 < _; omega)).trans d1'
                have HSTEP : Hid (rowT T (t + 1) = rowT T t ++ [.int .i64 kk, .int .i64 NN, .slice abp nb cbp]) := by unfold Hid; rw [rowT_step, HTi.out]
                have OW9 : w9.ownsRow w5.heap.size 36 3 v t (rowT T t) := owns_below HGR.out.own HB9.out
                have HOWN : Hid ((w9.alloc (.cells #[.int .i64 kk, .int .i64 NN, .slice abp nb cbp] 36)).drew.ownsRow w5.heap.size 36 3 v t (rowT T t)) := OW9.alloc (.cells #[.int .i64 kk, .int .i64 NN, .slice abp nb cbp] 36)
                have HNEWS : Hid (∀ i u, [Value.int .i64 kk, .int .i64 NN, .slice abp nb cbp][i]? = some u → (w9.alloc (.cells #[.int .i64 kk, .int .i64 NN, .slice abp nb cbp] 36)).drew.cell? ((⟨w9.heap.size, 0, none⟩ : Addr).add i) = some u) := by
                  intro i u hu
                  rw [add_off, Nat.zero_add]
                  exact cell_new0 w9 _ 36 i u (by simpa using hu)
                have HONE : Hid (∀ u ∈ [Value.int .i64 kk, .int .i64 NN, .slice abp nb cbp], u.oneCell' = true) := by
                  intro u hu
                  simp at hu
                  rcases hu with rfl | rfl | rfl <;> rfl
                have HMAX : Hid (t + 1 ≤ maxLen ∧ (t + 1) * 40 ≤ 140737488355328 ∧ w5.heap.size ≤ (w9.alloc (.cells #[.int .i64 kk, .int .i64 NN, .slice abp nb cbp] 36)).drew.heap.size) := by
                  refine ⟨by unfold maxLen; omega, by omega, ?_⟩
                  have : (w9.alloc (.cells #[.int .i64 kk, .int .i64 NN, .slice abp nb cbp] 36)).drew.heap.size = w9.heap.size + 1 := by simp
                  omega
                have HAB : Hid (Below w5.heap.size wo (w9.alloc (.cells #[.int .i64 kk, .int .i64 NN, .slice abp nb cbp] 36)).drew) := (HG9.out.trans ((Below.refl _ _).alloc (by show _ ≤ w9.heap.size; omega) _)).drew
                have hO1 : Hid (w.heap.size + 2 < w5.heap.size) := by unfold Hid; omega
                clear I9 hs9 hbw BA HTi hbb HCF hb9 HG9 OW9 HI7 HPL HDD HDR HB6 HTT HSC HN HR HP HI6 HI5 HSE HGB2 hs59 HBW HB9
                go_wp2
                go_region_law (refine step_append_own rfl (.tmp 116) (.tmp 122) 23 rfl w5.heap.size 36 i0 (.agg #[.int .i64 0, .int .i64 0, .slice none 0 0]) 3 40 Try.underlying23 hi0 hz00 hz01 hz02 rfl (by decide) v t (rowT T t) rfl HOWN.out ⟨w9.heap.size, 0, none⟩ 1 1 [.int .i64 kk, .int .i64 NN, .slice abp nb cbp] rfl rfl HNEWS.out HONE.out HMAX.out.1 HMAX.out.2.1 HMAX.out.2.2 ?_; intro v' w1 hown1 hb1; obtain ⟨g, cp, rfl, -⟩ := owns_form hown1 (Nat.succ_pos t); have dd1 := (HAB.out.trans hb1).cell (p := ⟨w.heap.size + 2, 1, none⟩) hO1.out |>.trans HGR.out.c1; have dd3 := (HAB.out.trans hb1).frozen (p := ⟨w.heap.size + 2, 1, none⟩) hO1.out |>.trans HGR.out.f1)
                all_goals
                  have hown2 : w1.ownsRow w5.heap.size 36 3 (.slice (some ⟨g, 0, none⟩) (t + 1) cp) (t + 1) (rowT T (t + 1)) := by rw [HSTEP.out]; exact hown1
                  have HNX := hide (HGR.out.step hO1.out (HAB.out.trans hb1) hown2)
                  clear hown1 hown2 hb1 dd1 dd3 HOWN HNEWS HONE HMAX HAB HGR HSTEP x0 u0 u1 u2 r1
                  go_wp2
                  go_roundg (N - (t + 1))
                  case rel => exact ⟨t + 1, _, by omega, by go_num, HNX.out⟩
                  case measure => omega

    · have hte : t = N := by omega
      subst hte
      obtain ⟨g2, cp2, rfl, hcells⟩ := owns_cellsT T hgr.own
      have d0' := hgr.c0
      have d1' := hgr.c1
      have p0 := I6.p0
      have p1 := I6.p1
      have f0 := I6.f0
      have f1 := I6.f1
      have HT := hide (I6.put (.slice al SS cl) (.slice g2 t cp2))
      have HFIN : Hid (∀ u v, GivesZ (n + 1) w0 (byR 2 s x) w (.returned (.agg #[.slice al SS cl, .slice g2 t cp2])) ((wo.setCell ⟨w.heap.size + 1, 0, none⟩ u).setCell ⟨w.heap.size + 1, 1, none⟩ v)) := by
        intro u v
        refine ⟨⟨_, rfl, fun W hW hK => ?_⟩, I6.fin u v⟩
        have hO := HZ.out
        have K1 : Keeps W3.heap.size w5 wo := ⟨hgr.io.size, fun b h1 h2 => hgr.keep b h2 (by omega)⟩
        have K2 : Keeps W3.heap.size wo ((wo.setCell ⟨w.heap.size + 1, 0, none⟩ u).setCell ⟨w.heap.size + 1, 1, none⟩ v) := ((Keeps.refl _ _).setCell (p := ⟨w.heap.size + 1, 0, none⟩) (by show w.heap.size + 1 < _; omega) u).setCell (p := ⟨w.heap.size + 1, 1, none⟩) (by show w.heap.size + 1 < _; omega) v
        have K3 := K2.trans (hK.mono (show w.heap.size ≤ W3.heap.size by omega))
        have RF := (((HRL.out.keeps K1).keeps K3).low (Nat.zero_le _))
        have hcl : (byR 2 s x).cells.length = t := by show (mkCs _ _).length = t; rw [mkCs_len, HN.out]; simp
        refine arIn_mk (x := byR 2 s x) RF (by rw [hcl]; omega) ?_ (by show s.length = SS; exact HSC.out.2.2) hcl
        rcases hcells with h0 | ⟨g, rfl, hg1, hg2, hcc⟩
        · exact Or.inl (List.eq_nil_of_length_eq_zero (by rw [hcl]; exact h0))
        · refine Or.inr ⟨g, 0, rfl, Nat.zero_le _, Nat.lt_of_lt_of_le hg2 K3.1, fun i hi => ?_⟩
          rw [hcl] at hi
          obtain ⟨-, -, p, hp1, hp2, -, -⟩ := HP.out i hi
          obtain ⟨b, off, -, -, hb, hcl2⟩ := HCF.out (by omega)
          obtain ⟨-, -, -, hce⟩ := hcl2 p hp2
          obtain ⟨e0, e1, e2⟩ := hcc i hi
          rw [Nat.zero_add]
          have ap : ∀ (o : Nat) (q : Value), wo.cell? ⟨g, o, none⟩ = some q → W.cell? ⟨g, o, none⟩ = some q := fun o q h => (K3.cell (p := ⟨g, o, none⟩) (by show W3.heap.size ≤ g; omega) hg2).trans h
          refine ⟨_, _, _, ap _ _ e0, ap _ _ e1, ap _ _ e2, ?_⟩
          have ec : cAt (byR 2 s x).cells i = cAt x.cells p := by show cAt (mkCs _ _) i = _; rw [mkCs_at _ _ _ (by rw [HN.out]; simpa using hi), hp1]; rfl
          rw [ec, HTT.out, hp1, Int.toNat_natCast]
          exact hce.mono (Nat.zero_le _) hW fun x v h => h.mono (Nat.zero_le _) hW
      clear I6 hgr HGR HCF hcells BW
      go_wp2
      exact bodyPost_ret (v := .agg #[.slice al SS cl, .slice g2 t cp2]) (by simp [results, Try.results41, go_sem, HT.out.1, HT.out.2]) rfl (HFIN.out _ _)
end Go.Proofs.Ytmjncdhahdpplaa
