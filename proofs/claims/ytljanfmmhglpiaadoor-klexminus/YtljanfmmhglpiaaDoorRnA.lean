/-
  Signs and their bytes as plain mathematics: a good number's bytes can be read in one way, and bytes are parted into signs in one way; no condition.
-/
namespace Go.Proofs.YtljanfmmhglpiaaDoor.Rn
/-- There is a sign of that number. -/
def Good (n : Int) : Prop := (0 ≤ n ∧ n < 55296) ∨ (57343 < n ∧ n < 1114112)
instance (n : Int) : Decidable (Good n) := by unfold Good; infer_instance
def goodB (n : Int) : Bool := decide (Good n)
/-- How many bytes a sign has. -/
def wid (n : Int) : Nat := if n < 128 then 1 else if n < 2048 then 2 else if n < 65536 then 3 else 4
/-- A sign's bytes. -/
def put (n : Int) : List Int :=
  if n < 128 then [n]
  else if n < 2048 then [192 + n / 64, 128 + n % 64]
  else if n < 65536 then [224 + n / 4096, 128 + n / 64 % 64, 128 + n % 64]
  else [240 + n / 262144, 128 + n / 4096 % 64, 128 + n / 64 % 64, 128 + n % 64]
def enc (l : List Int) : List Int := l.flatMap put
def Byte (c : Int) : Prop := 0 ≤ c ∧ c < 256
theorem Good.rng {n : Int} (h : Good n) : 0 ≤ n ∧ n < 1114112 := by unfold Good at h; omega
theorem put_length (n : Int) : (put n).length = wid n := by
  unfold put wid
  split <;> (try split) <;> (try split) <;> rfl
theorem wid_pos (n : Int) : 1 ≤ wid n ∧ wid n ≤ 4 := by
  unfold wid
  split <;> (try split) <;> (try split) <;> omega
theorem put_bytes {n : Int} (h : Good n) : ∀ c ∈ put n, Byte c := by
  have := h.rng
  unfold put Byte
  intro c hc
  split at hc
  · simp at hc; omega
  · split at hc
    · simp at hc; omega
    · split at hc
      · simp at hc; omega
      · simp at hc; omega
/-- What bytes begin with: a sign's bytes are told from all others'. -/
theorem put_inj {m n : Int} {r s : List Int} (hm : Good m) (hn : Good n) (h : put m ++ r = put n ++ s) : m = n ∧ r = s := by
  have := hm.rng
  have := hn.rng
  unfold put at h
  split at h <;> (try split at h) <;> (try split at h) <;> (try split at h) <;> (try split at h) <;> (try split at h) <;> simp at h <;> first | omega | (refine ⟨by omega, ?_⟩; first | exact h.2 | exact h.2.2 | exact h.2.2.2 | exact h.2.2.2.2)
theorem put_ne {n : Int} : put n ≠ [] := by
  intro h
  have := congrArg List.length h
  rw [put_length] at this
  have := wid_pos n
  simp at *
  omega
/-- No sign's bytes stand at the head. -/
def NoSign (b : List Int) : Prop := ∀ m r, Good m → b ≠ put m ++ r
theorem noSign_nil : NoSign [] := by
  intro m r _ h
  have := put_ne (n := m)
  simp_all
theorem enc_nil : enc [] = [] := rfl
theorem enc_cons (n : Int) (l : List Int) : enc (n :: l) = put n ++ enc l := by simp [enc]
theorem enc_append (l m : List Int) : enc (l ++ m) = enc l ++ enc m := by simp [enc]
theorem enc_bytes {l : List Int} (h : ∀ z ∈ l, Good z) : ∀ c ∈ enc l, Byte c := by
  intro c hc
  simp only [enc, List.mem_flatMap] at hc
  obtain ⟨z, hz, hc⟩ := hc
  exact put_bytes (h z hz) c hc
theorem enc_len (l : List Int) : l.length ≤ (enc l).length ∧ (enc l).length ≤ 4 * l.length := by
  induction l with
  | nil => simp [enc]
  | cons x l ih =>
    have := wid_pos x
    rw [enc_cons, List.length_append, put_length, List.length_cons]
    omega
/-- The bytes b are the signs l and then r, where no sign begins (or nothing is left). -/
def Parse (b l r : List Int) : Prop := (∀ z ∈ l, Good z) ∧ b = enc l ++ r ∧ NoSign r
theorem parse_all {l : List Int} (h : ∀ z ∈ l, Good z) : Parse (enc l) l [] := ⟨h, by simp, noSign_nil⟩
theorem parse_unique : ∀ {l l' b r r' : List Int}, Parse b l r → Parse b l' r' → l = l' ∧ r = r' := by
  intro l
  induction l with
  | nil =>
    intro l' b r r' ⟨_, h2, h3⟩ ⟨k1, k2, k3⟩
    cases l' with
    | nil => subst h2; exact ⟨rfl, by simpa [enc] using k2⟩
    | cons y l' =>
      exfalso
      rw [enc_cons, List.append_assoc] at k2
      exact h3 y (enc l' ++ r') (k1 y (by simp)) (by rw [← k2, h2]; simp [enc])
  | cons x l ih =>
    intro l' b r r' ⟨h1, h2, h3⟩ ⟨k1, k2, k3⟩
    cases l' with
    | nil =>
      exfalso
      rw [enc_cons, List.append_assoc] at h2
      exact k3 x (enc l ++ r) (h1 x (by simp)) (by rw [← h2, k2]; simp [enc])
    | cons y l' =>
      rw [enc_cons, List.append_assoc] at h2 k2
      obtain ⟨e1, e2⟩ := put_inj (h1 x (by simp)) (k1 y (by simp)) (h2.symm.trans k2)
      obtain ⟨e3, e4⟩ := ih (l' := l') (b := enc l ++ r) (r := r) (r' := r') ⟨fun z hz => h1 z (by simp [hz]), rfl, h3⟩ ⟨fun z hz => k1 z (by simp [hz]), e2, k3⟩
      exact ⟨by rw [e1, e3], e4⟩
theorem parse_exists (b : List Int) : ∃ l r, Parse b l r := by
  suffices h : ∀ n (b : List Int), b.length ≤ n → ∃ l r, Parse b l r from h b.length b (Nat.le_refl _)
  intro n
  induction n with
  | zero =>
    intro b hb
    have : b = [] := List.eq_nil_of_length_eq_zero (by omega)
    subst this
    exact ⟨[], [], by simp, by simp [enc], noSign_nil⟩
  | succ n ih =>
    intro b hb
    by_cases h : NoSign b
    · exact ⟨[], b, by simp, by simp [enc], h⟩
    · simp only [NoSign, Classical.not_forall, Decidable.not_not] at h
      obtain ⟨m, r, hm, rfl⟩ := h
      have hp := wid_pos m
      have hl := put_length m
      rw [List.length_append] at hb
      obtain ⟨l, s, h1, h2, h3⟩ := ih r (by omega)
      refine ⟨m :: l, s, ?_, ?_, h3⟩
      · intro z hz
        rcases List.mem_cons.1 hz with rfl | hz
        · exact hm
        · exact h1 z hz
      · rw [enc_cons, List.append_assoc, ← h2]
theorem parse_at {b l r : List Int} (h : Parse b l r) (j : Nat) : b.drop (enc (l.take j)).length = enc (l.drop j) ++ r := by
  have e : b = enc (l.take j) ++ (enc (l.drop j) ++ r) := by
    rw [← List.append_assoc, ← enc_append, List.take_append_drop]
    exact h.2.1
  conv => lhs; rw [e]
  rw [List.drop_left]
theorem parse_len {b l r : List Int} (h : Parse b l r) : b.length = (enc l).length + r.length := by rw [h.2.1, List.length_append]
theorem enc_take_succ (l : List Int) (j : Nat) (hj : j < l.length) : (enc (l.take (j + 1))).length = (enc (l.take j)).length + wid l[j] := by
  rw [List.take_succ_eq_append_getElem hj, enc_append, List.length_append]
  have : (enc [l[j]]).length = wid l[j] := by simp [enc, put_length]
  rw [this]
theorem enc_drop (l : List Int) (j : Nat) (hj : j < l.length) : enc (l.drop j) = put l[j] ++ enc (l.drop (j + 1)) := by
  rw [List.drop_eq_getElem_cons hj, enc_cons]
/-- Two texts, one behind the other. -/
theorem parse_join {a b l m s : List Int} (h : Parse a l []) (k : Parse b m s) : Parse (a ++ b) (l ++ m) s := by
  refine ⟨?_, ?_, k.2.2⟩
  · intro z hz
    rcases List.mem_append.1 hz with hz | hz
    · exact h.1 z hz
    · exact k.1 z hz
  · rw [h.2.1, k.2.1, enc_append]; simp
theorem parse_more {a b l r : List Int} (h : Parse a l r) (k : NoSign (r ++ b)) : Parse (a ++ b) l (r ++ b) := ⟨h.1, by rw [h.2.1]; simp, k⟩
/-- A sign that a text's end does not begin with alone, but with more behind it, is no one-byte sign. -/
theorem join_big {r b s : List Int} {m : Int} (hr : r ≠ []) (h : NoSign r) (hm : Good m) (e : r ++ b = put m ++ s) : 128 ≤ m := by
  rcases Int.lt_or_le m 128 with hlt | hge
  · exfalso
    unfold put at e
    rw [if_pos hlt] at e
    cases r with
    | nil => exact hr rfl
    | cons x r =>
      simp at e
      refine h m r hm ?_
      unfold put
      rw [if_pos hlt, e.1]
      rfl
  · exact hge
end Go.Proofs.YtljanfmmhglpiaaDoor.Rn
