/-
  Plain mathematics of reading numbers, in one piece: the bytes that say that one more follows, the last one, and what is read of them.
-/
import Derived.Test.YtdbhdgkbkhjikaaDoorReadMaths
namespace Go.Proofs.YtdbhdgkbkhjikaaDoor

/-- What bytes stand for, seven bits each, the lowest first. -/
def val : List Int → Int
  | [] => 0
  | b :: r => b % 128 + 128 * val r
theorem val_append : ∀ (f g : List Int), val (f ++ g) = val f + val g * 128 ^ f.length
  | [], g => by simp [val]
  | b :: f, g => by
    rw [List.cons_append, val, val, val_append f g, List.length_cons, Int.pow_succ, Int.mul_add, ← Int.add_assoc, Int.mul_comm (128 ^ f.length) 128, Int.mul_left_comm 128 (val g)]
theorem val_bound : ∀ (f : List Int), 0 ≤ val f ∧ val f < 128 ^ f.length
  | [] => by simp [val]
  | b :: f => by
    have := val_bound f
    rw [val, List.length_cons, Int.pow_succ]
    omega

theorem rdl_walk {fit : Int → Int → Bool} {B : Int} (t : List Int) : ∀ (f : List Int) (k : Nat) (n : Int), (∀ b ∈ f, 128 ≤ b ∧ b < 256) → 7 * ((k : Int) + f.length) < B →
    rdl fit B (f ++ t) k n = rdl fit B t (k + f.length) (n + val f * 128 ^ k)
  | [], k, n, _, _ => by simp [val]
  | b :: f, k, n, h, hB => by
    have hb := h b (by simp)
    simp only [List.length_cons] at hB
    rw [List.cons_append, rdl_more (by omega) (by omega), rdl_walk t f (k + 1) _ (fun x hx => h x (by simp [hx])) (by omega)]
    rw [val, Int.pow_succ, List.length_cons]
    have e1 : k + 1 + f.length = k + (f.length + 1) := by omega
    have e2 : b % 128 = b - 128 := by omega
    have e3 : n + (b - 128) * 128 ^ k + val f * (128 ^ k * 128) = n + (b - 128 + 128 * val f) * 128 ^ k := by
      rw [Int.add_mul, Int.add_assoc, Int.mul_comm (128 ^ k) 128, Int.mul_comm 128 (val f), Int.mul_assoc]
    rw [e1, e2, e3]

/-- Bytes that all say that one more follows, fewer than there may be: they end too early. -/
theorem rdl_short {fit : Int → Int → Bool} {B : Int} (f : List Int) (h : ∀ b ∈ f, 128 ≤ b ∧ b < 256) (hB : 7 * (f.length : Int) < B) : rdl fit B f 0 0 = (0, 0, 3) := by
  have := rdl_walk (fit := fit) (B := B) [] f 0 0 h (by simpa using hB)
  rw [List.append_nil] at this
  rw [this]; rfl
/-- As many as there may be, and more: they have no form. -/
theorem rdl_long {fit : Int → Int → Bool} {B : Int} (f t : List Int) (h : ∀ b ∈ f, 128 ≤ b ∧ b < 256) (m : Nat) (hm : f.length = m + 1) (hB : 7 * (m : Int) < B) (hB2 : B ≤ 7 * (m : Int) + 7) : rdl fit B (f ++ t) 0 0 = (0, 0, 4) := by
  have hl : (f.take m).length = m := by rw [List.length_take]; omega
  have hs : f = f.take m ++ f.drop m := (List.take_append_drop m f).symm
  obtain ⟨b, hb⟩ : ∃ b, f.drop m = [b] := by
    have : (f.drop m).length = 1 := by rw [List.length_drop]; omega
    exact List.length_eq_one_iff.1 this
  have hbm : b ∈ f := List.mem_of_mem_drop (i := m) (by rw [hb]; simp)
  rw [hs, hb, List.append_assoc, rdl_walk _ _ 0 0 (fun x hx => h x (List.mem_of_mem_take hx)) (by rw [hl]; simpa using hB)]
  exact rdl_form (by rw [hl]; simp; omega) (.inl (h b hbm).1)
/-- A last byte that has a bit without a place. -/
theorem rdl_bad {fit : Int → Int → Bool} {B : Int} (f t : List Int) (b : Int) (h : ∀ b ∈ f, 128 ≤ b ∧ b < 256) (hB : 7 * (f.length : Int) < B) (hB2 : B ≤ 7 * (f.length : Int) + 7) (hf : fit b (B - 7 * (f.length : Int)) = false) :
    rdl fit B (f ++ b :: t) 0 0 = (0, 0, 4) := by
  rw [rdl_walk _ _ 0 0 h (by simpa using hB)]
  exact rdl_form (by simp; omega) (.inr (by simpa using hf))
/-- A number. -/
theorem rdl_good {fit : Int → Int → Bool} {B : Int} (f t : List Int) (b : Int) (h : ∀ b ∈ f, 128 ≤ b ∧ b < 256) (hb0 : 0 ≤ b) (hb : b < 128) (hB : 7 * (f.length : Int) < B) (hf : B ≤ 7 * (f.length : Int) + 7 → fit b (B - 7 * (f.length : Int)) = true) :
    rdl fit B (f ++ b :: t) 0 0 = (val (f ++ [b]), (f.length : Int) + 1, 0) := by
  rw [rdl_walk _ _ 0 0 h (by simpa using hB), rdl_last (by intro h; simpa using hf (by simp at h; omega)) hb, val_append]
  have : b % 128 = b := by omega
  simp [val, this]

/-- Every list of bytes: those that say that one more follows, and then nothing, or a last byte. -/
theorem split_bytes : ∀ (l : List Int), (∀ b ∈ l, 0 ≤ b ∧ b < 256) → ∃ f, (∀ b ∈ f, 128 ≤ b ∧ b < 256) ∧ (l = f ∨ ∃ b t, l = f ++ b :: t ∧ 0 ≤ b ∧ b < 128)
  | [], _ => ⟨[], by simp, .inl rfl⟩
  | b :: l, h => by
    have hb := h b (by simp)
    by_cases h128 : b < 128
    · exact ⟨[], by simp, .inr ⟨b, l, rfl, hb.1, h128⟩⟩
    · obtain ⟨f, hf, hc⟩ := split_bytes l (fun x hx => h x (by simp [hx]))
      refine ⟨b :: f, ?_, ?_⟩
      · intro x hx
        rcases List.mem_cons.1 hx with rfl | hx
        · omega
        · exact hf x hx
      · rcases hc with rfl | ⟨c, t, rfl, hc⟩
        · exact .inl rfl
        · exact .inr ⟨c, t, rfl, hc⟩

/-- What U writes, so split. -/
theorem uB_split (n : Nat) : ∃ f b, uB n = f ++ [b] ∧ (∀ x ∈ f, 128 ≤ x ∧ x < 256) ∧ 0 ≤ b ∧ b < 128 ∧ val (f ++ [b]) = n := by
  induction n using Nat.strongRecOn with
  | ind n ih =>
    by_cases h : n < 128
    · exact ⟨[], (n : Int), uB_lo h, by simp, by omega, by omega, by simp [val]; omega⟩
    · obtain ⟨f, b, h1, h2, h3, h4, h5⟩ := ih (n / 128) (by omega)
      refine ⟨(((n % 128 : Nat) : Int) + 128) :: f, b, by rw [uB_hi h, h1]; rfl, ?_, h3, h4, ?_⟩
      · intro x hx
        rcases List.mem_cons.1 hx with rfl | hx
        · omega
        · exact h2 x hx
      · rw [List.cons_append, val, h5]; omega
/-- What S writes, so split. -/
theorem sB_split (f0 : Nat) : ∀ n : Int, n.natAbs < f0 → ∃ f b, sB n = f ++ [b] ∧ (∀ x ∈ f, 128 ≤ x ∧ x < 256) ∧ 0 ≤ b ∧ b < 128 ∧ val (f ++ [b]) = n + (if 64 ≤ b then 128 ^ (f.length + 1) else 0) := by
  induction f0 with
  | zero => intro n h; omega
  | succ f0 ih =>
    intro n hn
    by_cases h : -64 ≤ n ∧ n < 64
    · refine ⟨[], n % 128, sB_lo h, by simp, by omega, by omega, ?_⟩
      simp only [List.nil_append, val, List.length_nil]
      split <;> omega
    · obtain ⟨f, b, h1, h2, h3, h4, h5⟩ := ih (n / 128) (by omega)
      refine ⟨(n % 128 + 128) :: f, b, by rw [sB_hi h, h1]; rfl, ?_, h3, h4, ?_⟩
      · intro x hx
        rcases List.mem_cons.1 hx with rfl | hx
        · omega
        · exact h2 x hx
      · rw [List.cons_append, val, h5, List.length_cons, Int.pow_succ 128 (f.length + 1)]
        split <;> omega

end Go.Proofs.YtdbhdgkbkhjikaaDoor
