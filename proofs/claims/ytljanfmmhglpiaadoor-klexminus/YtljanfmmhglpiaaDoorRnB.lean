/-
  What the bit operations of layer 2 come to on bytes and small numbers, and what the bytes of a sign say of it; no condition.
-/
import Derived.Test.YtljanfmmhglpiaaDoorRnA
import Derived.Laws.BitsAllLaws
import Derived.Lib.Bits
namespace Go.Proofs.YtljanfmmhglpiaaDoor.Rn
theorem and63_all : ∀ n : Fin 256, bits BinOp.and IntKind.u8 (n.val : Int) 63 = (n.val : Int) % 64 := by decide +kernel
theorem and31_all : ∀ n : Fin 256, bits BinOp.and IntKind.u8 (n.val : Int) 31 = (n.val : Int) % 32 := by decide +kernel
theorem and15_all : ∀ n : Fin 256, bits BinOp.and IntKind.u8 (n.val : Int) 15 = (n.val : Int) % 16 := by decide +kernel
theorem and7_all : ∀ n : Fin 256, bits BinOp.and IntKind.u8 (n.val : Int) 7 = (n.val : Int) % 8 := by decide +kernel
theorem or128_all : ∀ n : Fin 64, bits BinOp.or IntKind.u8 128 (n.val : Int) = 128 + (n.val : Int) := by decide +kernel
theorem or192_all : ∀ n : Fin 32, bits BinOp.or IntKind.u8 192 (n.val : Int) = 192 + (n.val : Int) := by decide +kernel
theorem or224_all : ∀ n : Fin 16, bits BinOp.or IntKind.u8 224 (n.val : Int) = 224 + (n.val : Int) := by decide +kernel
theorem or240_all : ∀ n : Fin 8, bits BinOp.or IntKind.u8 240 (n.val : Int) = 240 + (n.val : Int) := by decide +kernel
theorem and63 {c : Int} (h0 : 0 ≤ c) (h1 : c < 256) : bits BinOp.and IntKind.u8 c 63 = c % 64 := by
  have := and63_all ⟨c.toNat, by omega⟩
  simpa [Int.toNat_of_nonneg h0] using this
theorem and31 {c : Int} (h0 : 0 ≤ c) (h1 : c < 256) : bits BinOp.and IntKind.u8 c 31 = c % 32 := by
  have := and31_all ⟨c.toNat, by omega⟩
  simpa [Int.toNat_of_nonneg h0] using this
theorem and15 {c : Int} (h0 : 0 ≤ c) (h1 : c < 256) : bits BinOp.and IntKind.u8 c 15 = c % 16 := by
  have := and15_all ⟨c.toNat, by omega⟩
  simpa [Int.toNat_of_nonneg h0] using this
theorem and7 {c : Int} (h0 : 0 ≤ c) (h1 : c < 256) : bits BinOp.and IntKind.u8 c 7 = c % 8 := by
  have := and7_all ⟨c.toNat, by omega⟩
  simpa [Int.toNat_of_nonneg h0] using this
theorem or128 {c : Int} (h0 : 0 ≤ c) (h1 : c < 64) : bits BinOp.or IntKind.u8 128 c = 128 + c := by
  have := or128_all ⟨c.toNat, by omega⟩
  simpa [Int.toNat_of_nonneg h0] using this
theorem or192 {c : Int} (h0 : 0 ≤ c) (h1 : c < 32) : bits BinOp.or IntKind.u8 192 c = 192 + c := by
  have := or192_all ⟨c.toNat, by omega⟩
  simpa [Int.toNat_of_nonneg h0] using this
theorem or224 {c : Int} (h0 : 0 ≤ c) (h1 : c < 16) : bits BinOp.or IntKind.u8 224 c = 224 + c := by
  have := or224_all ⟨c.toNat, by omega⟩
  simpa [Int.toNat_of_nonneg h0] using this
theorem or240 {c : Int} (h0 : 0 ≤ c) (h1 : c < 8) : bits BinOp.or IntKind.u8 240 c = 240 + c := by
  have := or240_all ⟨c.toNat, by omega⟩
  simpa [Int.toNat_of_nonneg h0] using this
theorem ofInt64 (a : Nat) (ha : a < 18446744073709551616) : (BitVec.ofInt 64 (a : Int)).toNat = a := by
  rw [BitVec.ofInt_natCast, BitVec.toNat_ofNat]; exact Nat.mod_eq_of_lt (by omega)
/-- The last six bits of a number that is not below 0. -/
theorem and63w {n : Int} (h0 : 0 ≤ n) (h1 : n < 4611686018427387904) : bits BinOp.and IntKind.i64 n 63 = n % 64 := by
  obtain ⟨a, rfl⟩ := Int.eq_ofNat_of_zero_le h0
  have e : a &&& 63 = a % 64 := Nat.and_two_pow_sub_one_eq_mod a 6
  show IntKind.i64.wrap ((BitVec.ofInt 64 (a : Int) &&& BitVec.ofInt 64 ((63 : Nat) : Int)).toNat : Int) = _
  rw [BitVec.toNat_and, ofInt64 a (by omega), ofInt64 63 (by omega), e]
  have : a % 64 < 64 := Nat.mod_lt _ (by omega)
  simp [IntKind.wrap, IntKind.bits, IntKind.signed]
  omega
/-- Six bits more. -/
theorem or6w {n c : Int} (h0 : 0 ≤ n) (h1 : n < 1099511627776) (h2 : 0 ≤ c) (h3 : c < 64) : bits BinOp.or IntKind.i64 (n * 64) c = n * 64 + c := by
  obtain ⟨a, rfl⟩ := Int.eq_ofNat_of_zero_le h0
  obtain ⟨x, rfl⟩ := Int.eq_ofNat_of_zero_le h2
  have e : (a * 64) ||| x = a * 64 + x := by
    have := Nat.shiftLeft_add_eq_or_of_lt (i := 6) (b := x) (by omega) a
    rw [Nat.shiftLeft_eq] at this
    exact this.symm
  have ea : ((a : Int) * 64) = ((a * 64 : Nat) : Int) := by omega
  show IntKind.i64.wrap ((BitVec.ofInt 64 ((a : Int) * 64) ||| BitVec.ofInt 64 (x : Int)).toNat : Int) = _
  rw [ea, BitVec.toNat_or, ofInt64 _ (by omega), ofInt64 _ (by omega), e]
  simp [IntKind.wrap, IntKind.bits, IntKind.signed]
  omega
theorem and192 {c : Int} (h0 : 0 ≤ c) (h1 : c < 256) : (bits BinOp.and IntKind.u8 c 192 != 128) = decide (c < 128 ∨ 192 ≤ c) := by
  rw [Lib.runeStart_of c h0 h1]
  unfold Lib.runeStart
  by_cases h : c < 128 ∨ 192 ≤ c
  · rw [decide_eq_true h, bne_iff_ne]; omega
  · have : c / 64 = 2 := by omega
    rw [decide_eq_false h, this]; rfl
/-- What a first byte says. -/
def fV (c : Int) : Int := if c < 128 then c else if c < 192 ∨ 248 ≤ c then 0 else if 240 ≤ c then c % 8 else if 224 ≤ c then c % 16 else c % 32
def fM (c : Int) : Int := if c < 128 then 0 else if c < 192 ∨ 248 ≤ c then -1 else if 240 ≤ c then 3 else if 224 ≤ c then 2 else 1
def least (k : Nat) : Int := [0, 128, 2048, 65536].getD k 0
def acc (v : Int) (l : List Int) : Int := l.foldl (fun n c => n * 64 + (c - 128)) v
theorem acc_snoc (v : Int) (l : List Int) (c : Int) : acc v (l ++ [c]) = acc v l * 64 + (c - 128) := by simp [acc]
def Cont (c : Int) : Prop := 128 ≤ c ∧ c < 192
theorem acc_bd (l : List Int) : ∀ (v : Int) (B : Int), 0 ≤ v → v < B → (∀ c ∈ l, Cont c) → 0 ≤ acc v l ∧ acc v l < B * 64 ^ l.length := by
  induction l with
  | nil => intro v B h0 h1 _; simp [acc]; omega
  | cons c l ih =>
    intro v B h0 h1 h
    have hc : Cont c := h c (by simp)
    unfold Cont at hc
    have := ih (v * 64 + (c - 128)) (B * 64) (by omega) (by omega) (fun x hx => h x (by simp [hx]))
    simp only [List.length_cons, Int.pow_succ]
    rw [Int.mul_comm (64 ^ l.length) 64, ← Int.mul_assoc]
    exact this
theorem acc_small (l : List Int) (v : Int) (h0 : 0 ≤ v) (h1 : v < 128) (h : ∀ c ∈ l, Cont c) (hl : l.length ≤ 3) : 0 ≤ acc v l ∧ acc v l < 33554432 := by
  have := acc_bd l v 128 h0 h1 h
  have e : (64 : Int) ^ l.length ≤ 262144 := by
    match l, hl with
    | [], _ => simp
    | [_], _ => simp
    | [_, _], _ => simp
    | [_, _, _], _ => simp
  omega
/-- What the bytes of a sign say. -/
theorem yes_facts {c0 m : Int} {t r : List Int} (hm : Good m) (h : c0 :: t = put m ++ r) :
    fM c0 = (wid m : Int) - 1 ∧ wid m ≤ t.length + 1 ∧ (∀ j, j < wid m - 1 → Cont (t.getD j 0)) ∧ acc (fV c0) (t.take (wid m - 1)) = m ∧ least (wid m - 1) ≤ m := by
  have := hm.rng
  unfold put at h
  by_cases h1 : m < 128
  · rw [if_pos h1] at h
    simp at h
    obtain ⟨rfl, rfl⟩ := h
    simp [wid, fM, fV, h1, acc, least]
    omega
  · rw [if_neg h1] at h
    by_cases h2 : m < 2048
    · rw [if_pos h2] at h
      simp at h
      obtain ⟨rfl, rfl⟩ := h
      have a1 : ¬ (192 + m / 64 < 128) := by omega
      have a2 : ¬ (192 + m / 64 < 192 ∨ 248 ≤ 192 + m / 64) := by omega
      have a3 : ¬ (240 ≤ 192 + m / 64) := by omega
      have a4 : ¬ (224 ≤ 192 + m / 64) := by omega
      simp only [wid, fM, fV, h1, h2, a1, a2, a3, a4, if_false, if_true, acc, least]
      refine ⟨by omega, by simp, ?_, by simp; omega, by simp; omega⟩
      intro j hj
      have : j = 0 := by omega
      subst this
      simp [Cont]; omega
    · rw [if_neg h2] at h
      by_cases h3 : m < 65536
      · rw [if_pos h3] at h
        simp at h
        obtain ⟨rfl, rfl⟩ := h
        have a1 : ¬ (224 + m / 4096 < 128) := by omega
        have a2 : ¬ (224 + m / 4096 < 192 ∨ 248 ≤ 224 + m / 4096) := by omega
        have a3 : ¬ (240 ≤ 224 + m / 4096) := by omega
        have a4 : (224 ≤ 224 + m / 4096) := by omega
        simp only [wid, fM, fV, h1, h2, h3, a1, a2, a3, a4, if_false, if_true, acc, least]
        refine ⟨by omega, by simp, ?_, by simp; omega, by simp; omega⟩
        intro j hj
        have : j = 0 ∨ j = 1 := by omega
        rcases this with rfl | rfl <;> simp [Cont] <;> omega
      · rw [if_neg h3] at h
        simp at h
        obtain ⟨rfl, rfl⟩ := h
        have a1 : ¬ (240 + m / 262144 < 128) := by omega
        have a2 : ¬ (240 + m / 262144 < 192 ∨ 248 ≤ 240 + m / 262144) := by omega
        have a3 : (240 ≤ 240 + m / 262144) := by omega
        simp only [wid, fM, fV, h1, h2, h3, a1, a2, a3, if_false, if_true, acc, least]
        refine ⟨by omega, by simp, ?_, by simp; omega, by simp; omega⟩
        intro j hj
        have : j = 0 ∨ j = 1 ∨ j = 2 := by omega
        rcases this with rfl | rfl | rfl <;> simp [Cont] <;> omega
/-- Bytes that say a good number that needs them are its bytes. -/
theorem yes_of {c0 : Int} {t : List Int} {M : Nat} (h0 : 0 ≤ c0) (h1 : c0 < 256) (hM : fM c0 = M) (hlen : M ≤ t.length) (hc : ∀ j, j < M → Cont (t.getD j 0)) (hn : least M ≤ acc (fV c0) (t.take M)) (hg : Good (acc (fV c0) (t.take M))) :
    c0 :: t = put (acc (fV c0) (t.take M)) ++ t.drop M ∧ wid (acc (fV c0) (t.take M)) = M + 1 := by
  have hrng := hg.rng
  unfold fM at hM
  by_cases a1 : c0 < 128
  · rw [if_pos a1] at hM
    have : M = 0 := by omega
    subst this
    simp [fV, a1, acc, put, wid]
  · rw [if_neg a1] at hM
    by_cases a2 : c0 < 192 ∨ 248 ≤ c0
    · rw [if_pos a2] at hM; omega
    · rw [if_neg a2] at hM
      by_cases a3 : 240 ≤ c0
      · rw [if_pos a3] at hM
        have : M = 3 := by omega
        subst this
        match t, hlen with
        | x :: y :: z :: t, _ =>
          have c1 := hc 0 (by omega)
          have c2 := hc 1 (by omega)
          have c3 := hc 2 (by omega)
          simp [Cont] at c1 c2 c3
          simp [fV, a1, a2, a3, acc, least] at hn hg hrng ⊢
          rw [show put (((c0 % 8 * 64 + (x - 128)) * 64 + (y - 128)) * 64 + (z - 128)) = [c0, x, y, z] by
            unfold put; rw [if_neg (by omega), if_neg (by omega), if_neg (by omega)]; congr 1; omega; congr 1; omega; congr 1; omega; congr 1; omega]
          refine ⟨rfl, ?_⟩
          unfold wid
          rw [if_neg (by omega), if_neg (by omega), if_neg (by omega)]
      · rw [if_neg a3] at hM
        by_cases a4 : 224 ≤ c0
        · rw [if_pos a4] at hM
          have : M = 2 := by omega
          subst this
          match t, hlen with
          | x :: y :: t, _ =>
            have c1 := hc 0 (by omega)
            have c2 := hc 1 (by omega)
            simp [Cont] at c1 c2
            simp [fV, a1, a2, a3, a4, acc, least] at hn hg hrng ⊢
            rw [show put ((c0 % 16 * 64 + (x - 128)) * 64 + (y - 128)) = [c0, x, y] by
              unfold put; rw [if_neg (by omega), if_neg (by omega), if_pos (by omega)]; congr 1; omega; congr 1; omega; congr 1; omega]
            refine ⟨rfl, ?_⟩
            unfold wid
            rw [if_neg (by omega), if_neg (by omega), if_pos (by omega)]
        · rw [if_neg a4] at hM
          have : M = 1 := by omega
          subst this
          match t, hlen with
          | x :: t, _ =>
            have c1 := hc 0 (by omega)
            simp [Cont] at c1
            simp [fV, a1, a2, a3, a4, acc, least] at hn hg hrng ⊢
            rw [show put (c0 % 32 * 64 + (x - 128)) = [c0, x] by
              unfold put; rw [if_neg (by omega), if_pos (by omega)]; congr 1; omega; congr 1; omega]
            refine ⟨rfl, ?_⟩
            unfold wid
            rw [if_neg (by omega), if_pos (by omega)]
theorem fV_rng {c : Int} (h0 : 0 ≤ c) : 0 ≤ fV c ∧ fV c < 128 := by
  unfold fV
  split
  · omega
  · split
    · omega
    · split
      · omega
      · split <;> omega
theorem fM_rng (c : Int) : fM c = -1 ∨ fM c = 0 ∨ fM c = 1 ∨ fM c = 2 ∨ fM c = 3 := by
  unfold fM
  split
  · omega
  · split
    · omega
    · split
      · omega
      · split <;> omega
/-- Why no sign's bytes stand there. -/
theorem no_first {c0 : Int} {t : List Int} (h : fM c0 = -1) : NoSign (c0 :: t) := by
  intro m r hm e
  have := (yes_facts hm e).1
  have := wid_pos m
  omega
theorem no_short {c0 : Int} {t : List Int} (h : (t.length : Int) + 1 ≤ fM c0) : NoSign (c0 :: t) := by
  intro m r hm e
  obtain ⟨h1, h2, _⟩ := yes_facts hm e
  omega
theorem no_cont {c0 : Int} {t : List Int} {M j : Nat} (hM : fM c0 = M) (hj : j < M) (h : ¬ Cont (t.getD j 0)) : NoSign (c0 :: t) := by
  intro m r hm e
  obtain ⟨h1, _, h3, _⟩ := yes_facts hm e
  exact h (h3 j (by omega))
theorem no_least {c0 : Int} {t : List Int} {M : Nat} (hM : fM c0 = M) (h : acc (fV c0) (t.take M) < least M) : NoSign (c0 :: t) := by
  intro m r hm e
  obtain ⟨h1, _, _, h4, h5⟩ := yes_facts hm e
  have := wid_pos m
  have e : wid m - 1 = M := by omega
  rw [e] at h4 h5
  omega
theorem no_good {c0 : Int} {t : List Int} {M : Nat} (hM : fM c0 = M) (h : ¬ Good (acc (fV c0) (t.take M))) : NoSign (c0 :: t) := by
  intro m r hm e
  obtain ⟨h1, _, _, h4, _⟩ := yes_facts hm e
  have := wid_pos m
  have e : wid m - 1 = M := by omega
  rw [e] at h4
  rw [h4] at h
  exact h hm
end Go.Proofs.YtljanfmmhglpiaaDoor.Rn
