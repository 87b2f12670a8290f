/-
  What Store does, in one; bytes that are laid over others.
-/
import Derived.Test.YtomiganjagjabaaMM8
import Derived.Test.YtomiganjagjabaaMemWallsWalk
namespace Go.Proofs.Ytomiganjagjabaa
open Go.RowKit

theorem splice_get (l d : List Int) (o : Nat) (h : o + d.length ≤ l.length) (i : Nat) : (splice l o d)[i]? = if o ≤ i ∧ i < o + d.length then d[i - o]? else l[i]? := by
  unfold splice
  have e1 : (l.take o).length = o := by rw [List.length_take]; omega
  by_cases h1 : i < o
  · rw [List.getElem?_append_left (by omega), List.getElem?_take_of_lt h1, if_neg (by omega)]
  · rw [List.getElem?_append_right (by omega), e1]
    by_cases h2 : i < o + d.length
    · rw [List.getElem?_append_left (by omega), if_pos ⟨by omega, h2⟩]
    · rw [List.getElem?_append_right (by omega), if_neg (by omega), List.getElem?_drop]
      congr 1
      omega
theorem splice_comm (l d e : List Int) (x y : Nat) (h1 : x + d.length ≤ l.length) (h2 : y + e.length ≤ l.length) (h : x + d.length ≤ y ∨ y + e.length ≤ x) : splice (splice l x d) y e = splice (splice l y e) x d := by
  apply List.ext_getElem?
  intro i
  rw [splice_get _ _ _ (by rw [length_splice _ _ _ h1]; exact h2), splice_get _ _ _ h1, splice_get _ _ _ (by rw [length_splice _ _ _ h2]; exact h1), splice_get _ _ _ h2]
  by_cases a1 : y ≤ i ∧ i < y + e.length
  · by_cases a2 : x ≤ i ∧ i < x + d.length
    · omega
    · simp only [if_pos a1, if_neg a2]
  · simp only [if_neg a1]
/-- The bytes behind a store. -/
def stB (b : List Int) (a wd : Nat) (v : Int) : List Int := if b.length < a + wd then b else splice b a ((by8 (u64 v)).take wd)
def stC (b : List Int) (a wd : Nat) : Int := if b.length < a + wd then 23 else 0
theorem by8_len (v : Nat) : (by8 v).length = 8 := by rw [← byK_all, byK_len]
theorem stB_len (b : List Int) (a wd : Nat) (v : Int) (h8 : wd ≤ 8) : (stB b a wd v).length = b.length := by
  unfold stB
  split
  · rfl
  · rw [length_splice _ _ _ (by rw [List.length_take, by8_len]; omega)]
theorem mstore_gen (P g n : Nat) (most : Int) (b : List Int) (op base v : Int) (u k wd : Nat) (hwd : insW op = (wd : Int)) (h0 : wd ≠ 0) (h8 : wd ≤ 8) (h54 : ¬ op < 54) (hu : base % 4294967296 = (u : Int)) (hk : k ≤ 4294967295) (w : World) (h : MB w P g n most b) :
    Calls Try.prog 15 #[.pointer (some ⟨P, 0, none⟩), .int .u8 op, .int .i64 base, .int .i64 (k : Int), .int .i64 v] w fun r w' => r = .returned (.int .i64 (stC b (u + k) wd)) ∧ MB w' P g n most (stB b (u + k) wd v) ∧ Chg g w w' := by
  by_cases hh : b.length < u + k + wd
  · have he : plE b.length base (k : Int) wd = 23 := by
      unfold plE
      rw [if_neg (by omega), hu, if_pos (by omega)]
    refine (store_no P g n most b op base k v wd hwd h0 h8 h54 (by rw [he]; decide) w h).mono ?_
    rintro r w' ⟨rfl, rfl⟩
    refine ⟨?_, ?_, Chg.refl _ _⟩
    · unfold stC; rw [if_pos hh, he]
    · unfold stB; rw [if_pos hh]; exact h
  · have he : plE b.length base (k : Int) wd = 0 := by
      unfold plE
      rw [if_neg (by omega), hu, if_neg (by omega)]
    refine (store_yes P g n most b op base k v wd (u + k) hwd h0 h8 h54 he (by omega) w h).mono ?_
    rintro r w' ⟨rfl, h1, h2⟩
    refine ⟨?_, ?_, h2⟩
    · unfold stC; rw [if_neg hh]
    · unfold stB; rw [if_neg hh]; exact h1
theorem stB_comm (b : List Int) (x y : Nat) (v u : Int) (h : x + 8 ≤ y ∨ y + 8 ≤ x) : stB (stB b x 8 v) y 8 u = stB (stB b y 8 u) x 8 v := by
  have e1 : ((by8 (u64 v)).take 8).length = 8 := by rw [List.length_take, by8_len]; rfl
  have e2 : ((by8 (u64 u)).take 8).length = 8 := by rw [List.length_take, by8_len]; rfl
  by_cases h1 : b.length < x + 8
  · by_cases h2 : b.length < y + 8
    · simp [stB, h1, h2]
    · have : (splice b y ((by8 (u64 u)).take 8)).length = b.length := length_splice _ _ _ (by omega)
      simp [stB, h1, h2, this]
  · have g1 : (splice b x ((by8 (u64 v)).take 8)).length = b.length := length_splice _ _ _ (by omega)
    by_cases h2 : b.length < y + 8
    · simp [stB, h1, h2, g1]
    · have g2 : (splice b y ((by8 (u64 u)).take 8)).length = b.length := length_splice _ _ _ (by omega)
      unfold stB
      rw [if_neg h1, if_neg h2, if_neg (by rw [g1]; exact h2), if_neg (by rw [g2]; exact h1)]
      exact splice_comm b _ _ x y (by omega) (by omega) (by omega)
def restN (x : Int) : Nat := if x.tmod 2100 < 0 then (x.tmod 2100 + 2100).toNat else (x.tmod 2100).toNat
theorem restN_lt (x : Int) : restN x < 2100 := by
  have h1 : x.tmod 2100 < 2100 := Int.tmod_lt_of_pos x (by decide)
  unfold restN
  split <;> omega
set_option maxHeartbeats 1000000 in
set_option maxRecDepth 1000000 in
theorem rest_any (x : Int) (w : World) : Calls Try.prog 26 #[.int .i64 x, .int .i64 2100] w fun r w' => r = .returned (.int .i64 (restN x : Int)) ∧ w' = w := by
  obtain ⟨r, hr⟩ : ∃ r, r = x.tmod 2100 := ⟨_, rfl⟩
  have h1 : r < 2100 := by rw [hr]; exact Int.tmod_lt_of_pos x (by decide)
  have h2 : -2100 < r := by rw [hr]; exact Int.lt_tmod_of_pos x (by decide)
  unfold restN
  rw [← hr]
  have hr2 := hr.symm
  clear hr
  by_cases h : r < 0
  · rw [if_pos h]
    have HE : Hid (((r + 2100).toNat : Int) = r + 2100) := by unfold Hid; omega
    rw [HE.out]
    go_enter Try.func26, Try.ntmps26
    go_wp2
    go_ret
    exact ⟨rfl, rfl⟩
  · rw [if_neg h]
    have HE : Hid ((r.toNat : Int) = r) := by unfold Hid; omega
    rw [HE.out]
    go_enter Try.func26, Try.ntmps26
    go_wp2
    go_ret
    exact ⟨rfl, rfl⟩
end Go.Proofs.Ytomiganjagjabaa
