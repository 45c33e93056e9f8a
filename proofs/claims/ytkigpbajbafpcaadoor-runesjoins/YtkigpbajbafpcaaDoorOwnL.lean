/-
  The contract of the document's own value: of one to four bytes the number that they would say as a sign's.
-/
import Derived.Test.YtkigpbajbafpcaaDoorOwnK
namespace Go.Proofs.YtkigpbajbafpcaaDoor
open Go.ChangeShapes Go.WideShapes Go.ChangeAt Go.RowKit
/-- What is taken off the first byte, by how many follow. -/
def offs (M : Nat) : Int := [0, 192, 224, 240].getD M 0
def valL (bs : List Int) : Int := match bs with
  | [] => 0
  | c0 :: t => acc (c0 - offs t.length) t
set_option maxHeartbeats 2000000 in
theorem value1 (c0 : Int) (b off cap : Nat) (w : World) (h0 : 0 ≤ c0) (k0 : c0 < 256) (x0 : w.cell? ⟨b, off, none⟩ = some (.int .u8 c0)) :
    Calls Tryd.prog 21 #[.slice (some ⟨b, off, none⟩) 1 cap] w fun e w' => e = .returned (.int .i64 (c0)) ∧ w' = w := by
  go_enter Tryd.func21, Tryd.ntmps21
  go_wp2
  go_loop [3, 4] (fun m i => (i = .int .i64 1 ∧ m = .int .i64 (c0))) (fun _ i => 1 - (intOf i).toNat)
  case atStart => exact ⟨rfl, rfl⟩
  case round =>
    obtain ⟨rfl, rfl⟩ := hrel
    go_wp2
    go_ret
    exact ⟨rfl, rfl⟩
set_option maxHeartbeats 2000000 in
theorem value2 (c0 c1 : Int) (b off cap : Nat) (w : World) (h0 : 0 ≤ c0) (k0 : c0 < 256) (h1 : 0 ≤ c1) (k1 : c1 < 256) (x0 : w.cell? ⟨b, off, none⟩ = some (.int .u8 c0)) (x1 : w.cell? ⟨b, off + 1, none⟩ = some (.int .u8 c1)) :
    Calls Tryd.prog 21 #[.slice (some ⟨b, off, none⟩) 2 cap] w fun e w' => e = .returned (.int .i64 ((c0 - 192) * 64 + c1 - 128)) ∧ w' = w := by
  go_enter Tryd.func21, Tryd.ntmps21
  go_wp2
  go_loop [3, 4] (fun m i => (i = .int .i64 1 ∧ m = .int .i64 (c0 - 192)) ∨ (i = .int .i64 2 ∧ m = .int .i64 ((c0 - 192) * 64 + c1 - 128))) (fun _ i => 2 - (intOf i).toNat)
  case atStart => exact Or.inl ⟨rfl, rfl⟩
  case round =>
    rcases hrel with ⟨rfl, rfl⟩ | ⟨rfl, rfl⟩
    · go_wp2
      go_round
      case rel => exact Or.inr (⟨rfl, rfl⟩)
      case measure => simp [intOf]
    · go_wp2
      go_ret
      exact ⟨rfl, rfl⟩
set_option maxHeartbeats 2000000 in
theorem value3 (c0 c1 c2 : Int) (b off cap : Nat) (w : World) (h0 : 0 ≤ c0) (k0 : c0 < 256) (h1 : 0 ≤ c1) (k1 : c1 < 256) (h2 : 0 ≤ c2) (k2 : c2 < 256) (x0 : w.cell? ⟨b, off, none⟩ = some (.int .u8 c0)) (x1 : w.cell? ⟨b, off + 1, none⟩ = some (.int .u8 c1)) (x2 : w.cell? ⟨b, off + 2, none⟩ = some (.int .u8 c2)) :
    Calls Tryd.prog 21 #[.slice (some ⟨b, off, none⟩) 3 cap] w fun e w' => e = .returned (.int .i64 (((c0 - 224) * 64 + c1 - 128) * 64 + c2 - 128)) ∧ w' = w := by
  go_enter Tryd.func21, Tryd.ntmps21
  go_wp2
  go_loop [3, 4] (fun m i => (i = .int .i64 1 ∧ m = .int .i64 (c0 - 224)) ∨ (i = .int .i64 2 ∧ m = .int .i64 ((c0 - 224) * 64 + c1 - 128)) ∨ (i = .int .i64 3 ∧ m = .int .i64 (((c0 - 224) * 64 + c1 - 128) * 64 + c2 - 128))) (fun _ i => 3 - (intOf i).toNat)
  case atStart => exact Or.inl ⟨rfl, rfl⟩
  case round =>
    rcases hrel with ⟨rfl, rfl⟩ | ⟨rfl, rfl⟩ | ⟨rfl, rfl⟩
    · go_wp2
      go_round
      case rel => exact Or.inr (Or.inl ⟨rfl, rfl⟩)
      case measure => simp [intOf]
    · go_wp2
      go_round
      case rel => exact Or.inr (Or.inr (⟨rfl, rfl⟩))
      case measure => simp [intOf]
    · go_wp2
      go_ret
      exact ⟨rfl, rfl⟩
set_option maxHeartbeats 2000000 in
theorem value4 (c0 c1 c2 c3 : Int) (b off cap : Nat) (w : World) (h0 : 0 ≤ c0) (k0 : c0 < 256) (h1 : 0 ≤ c1) (k1 : c1 < 256) (h2 : 0 ≤ c2) (k2 : c2 < 256) (h3 : 0 ≤ c3) (k3 : c3 < 256) (x0 : w.cell? ⟨b, off, none⟩ = some (.int .u8 c0)) (x1 : w.cell? ⟨b, off + 1, none⟩ = some (.int .u8 c1)) (x2 : w.cell? ⟨b, off + 2, none⟩ = some (.int .u8 c2)) (x3 : w.cell? ⟨b, off + 3, none⟩ = some (.int .u8 c3)) :
    Calls Tryd.prog 21 #[.slice (some ⟨b, off, none⟩) 4 cap] w fun e w' => e = .returned (.int .i64 ((((c0 - 240) * 64 + c1 - 128) * 64 + c2 - 128) * 64 + c3 - 128)) ∧ w' = w := by
  go_enter Tryd.func21, Tryd.ntmps21
  go_wp2
  go_loop [3, 4] (fun m i => (i = .int .i64 1 ∧ m = .int .i64 (c0 - 240)) ∨ (i = .int .i64 2 ∧ m = .int .i64 ((c0 - 240) * 64 + c1 - 128)) ∨ (i = .int .i64 3 ∧ m = .int .i64 (((c0 - 240) * 64 + c1 - 128) * 64 + c2 - 128)) ∨ (i = .int .i64 4 ∧ m = .int .i64 ((((c0 - 240) * 64 + c1 - 128) * 64 + c2 - 128) * 64 + c3 - 128))) (fun _ i => 4 - (intOf i).toNat)
  case atStart => exact Or.inl ⟨rfl, rfl⟩
  case round =>
    rcases hrel with ⟨rfl, rfl⟩ | ⟨rfl, rfl⟩ | ⟨rfl, rfl⟩ | ⟨rfl, rfl⟩
    · go_wp2
      go_round
      case rel => exact Or.inr (Or.inl ⟨rfl, rfl⟩)
      case measure => simp [intOf]
    · go_wp2
      go_round
      case rel => exact Or.inr (Or.inr (Or.inl ⟨rfl, rfl⟩))
      case measure => simp [intOf]
    · go_wp2
      go_round
      case rel => exact Or.inr (Or.inr (Or.inr (⟨rfl, rfl⟩)))
      case measure => simp [intOf]
    · go_wp2
      go_ret
      exact ⟨rfl, rfl⟩
theorem value_any (bs : List Int) (n : Nat) (hn : bs.length = n) (h1 : 1 ≤ n) (h4 : n ≤ 4) (b off cap : Nat) (w : World) (hB : ∀ z ∈ bs, Byte z) (hc : ∀ i, i < n → w.cell? ⟨b, off + i, none⟩ = some (.int .u8 (bs[i]?.getD 0))) :
    Calls Tryd.prog 21 #[.slice (some ⟨b, off, none⟩) n cap] w fun e w' => e = .returned (.int .i64 (valL bs)) ∧ w' = w := by
  subst hn
  match bs, h1, h4 with
  | [c0], _, _ =>
    have b0 := hB c0 (by simp)
    have q := value1 c0 b off cap w b0.1 b0.2 (by have := hc 0 (by simp); simpa using this)
    have e : valL [c0] = c0 := by simp [valL, acc, offs]
    rw [e]
    exact q
  | [c0, c1], _, _ =>
    have b0 := hB c0 (by simp)
    have b1 := hB c1 (by simp)
    have q := value2 c0 c1 b off cap w b0.1 b0.2 b1.1 b1.2 (by have := hc 0 (by simp); simpa using this) (by have := hc 1 (by simp); simpa using this)
    have e : valL [c0, c1] = (c0 - 192) * 64 + c1 - 128 := by simp [valL, acc, offs]; omega
    rw [e]
    exact q
  | [c0, c1, c2], _, _ =>
    have b0 := hB c0 (by simp)
    have b1 := hB c1 (by simp)
    have b2 := hB c2 (by simp)
    have q := value3 c0 c1 c2 b off cap w b0.1 b0.2 b1.1 b1.2 b2.1 b2.2 (by have := hc 0 (by simp); simpa using this) (by have := hc 1 (by simp); simpa using this) (by have := hc 2 (by simp); simpa using this)
    have e : valL [c0, c1, c2] = ((c0 - 224) * 64 + c1 - 128) * 64 + c2 - 128 := by simp [valL, acc, offs]; omega
    rw [e]
    exact q
  | [c0, c1, c2, c3], _, _ =>
    have b0 := hB c0 (by simp)
    have b1 := hB c1 (by simp)
    have b2 := hB c2 (by simp)
    have b3 := hB c3 (by simp)
    have q := value4 c0 c1 c2 c3 b off cap w b0.1 b0.2 b1.1 b1.2 b2.1 b2.2 b3.1 b3.2 (by have := hc 0 (by simp); simpa using this) (by have := hc 1 (by simp); simpa using this) (by have := hc 2 (by simp); simpa using this) (by have := hc 3 (by simp); simpa using this)
    have e : valL [c0, c1, c2, c3] = (((c0 - 240) * 64 + c1 - 128) * 64 + c2 - 128) * 64 + c3 - 128 := by simp [valL, acc, offs]; omega
    rw [e]
    exact q
  | [], h, _ => simp at h
  | _ :: _ :: _ :: _ :: _ :: _, _, h => simp at h
theorem val_put {m : Int} (h : Good m) : valL (put m) = m := by
  have := h.rng
  unfold put
  by_cases h1 : m < 128
  · rw [if_pos h1]; simp [valL, acc, offs]
  · rw [if_neg h1]
    by_cases h2 : m < 2048
    · rw [if_pos h2]; simp [valL, acc, offs]; omega
    · rw [if_neg h2]
      by_cases h3 : m < 65536
      · rw [if_pos h3]; simp [valL, acc, offs]; omega
      · rw [if_neg h3]; simp [valL, acc, offs]; omega
/-- The first k bytes are a sign's. -/
def Pass (bs : List Int) (k : Nat) : Prop := Good (valL (bs.take k)) ∧ put (valL (bs.take k)) = bs.take k
theorem pass_one {bs : List Int} {k : Nat} (hk : k ≤ bs.length) (h : Pass bs k) : IsOne bs (valL (bs.take k)) (k : Int) := by
  refine Or.inr ⟨bs.drop k, h.1, by rw [h.2, List.take_append_drop], ?_⟩
  have := put_length (valL (bs.take k))
  rw [h.2, List.length_take] at this
  omega
theorem pass_none {bs : List Int} (h : ∀ k, 1 ≤ k → k ≤ 4 → k ≤ bs.length → ¬ Pass bs k) : NoSign bs := by
  intro m r hm e
  have hw := wid_pos m
  have hl := put_length m
  have ht : bs.take (wid m) = put m := by rw [e, ← hl, List.take_left]
  refine h (wid m) hw.1 hw.2 (by rw [e, List.length_append, hl]; omega) ?_
  unfold Pass
  rw [ht, val_put hm]
  exact ⟨hm, rfl⟩
end Go.Proofs.YtkigpbajbafpcaaDoor
