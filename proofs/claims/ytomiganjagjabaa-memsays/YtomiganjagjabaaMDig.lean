/-
  What the document's own chr and digits do.
-/
import Derived.Test.YtomiganjagjabaaMM9
import Derived.WalkSpells
import Derived.Laws.Concat
namespace Go.Proofs.Ytomiganjagjabaa
open Go.RowKit

theorem chr_conv (w : World) (n : Int) : (convert 34 9 (.slice (some ⟨w.heap.size, 0, none⟩) 1 1)).run Try.prog (w.alloc (.cells #[.int .u8 n] 5)) = .ok (.string (strOfNums [n])) (w.alloc (.cells #[.int .u8 n] 5)) := by
  refine run_convert_bytes_arg _ 34 5 Try.underlying34 Try.underlying5 w.heap.size 0 1 1 [n] rfl ?_ 9 Try.underlying9
  intro i hi
  have : i = 0 := by omega
  subst this
  rw [World.cell?_alloc_at _ _ _ _ rfl]
  rfl

set_option maxHeartbeats 400000 in
theorem chr_any (n : Int) (h0 : 0 ≤ n) (h1 : n < 256) (w : World) :
    Calls Try.prog 43 #[.int .i64 n] w fun e w' => e = .returned (.string (strOfNums [n])) ∧ Below w.heap.size w w' := by
  have hc := chr_conv w n
  go_enter Try.func43, Try.ntmps43
  go_wp2
  go_ret
  exact ⟨rfl, (Below.refl _ _).alloc (Nat.le_refl _) _⟩

theorem str_cons (x : Int) (xs : List Int) : strOfNums [x] ++ strOfNums xs = strOfNums (x :: xs) := by
  have : (strOfNums [x] ++ strOfNums xs).data = (strOfNums (x :: xs)).data := by
    rw [ByteArray.data_append]
    simp [strOfNums]
  exact ByteArray.ext this

/-- The digits of a number, as bytes. -/
def digB (u : Nat) : List Int := if u < 10 then [48 + (u : Int)] else digB (u / 10) ++ [48 + (u : Int) % 10]
  termination_by u
  decreasing_by omega
theorem digB_lo {u : Nat} (h : u < 10) : digB u = [48 + (u : Int)] := by rw [digB, if_pos h]
theorem digB_hi {u : Nat} (h : ¬ u < 10) : digB u = digB (u / 10) ++ [48 + (u : Int) % 10] := by rw [digB, if_neg h]
theorem digB_len (k : Nat) : ∀ u : Nat, u < 10 ^ (k + 1) → (digB u).length ≤ k + 1 := by
  induction k with
  | zero => intro u h; rw [digB_lo (by simpa using h)]; simp
  | succ k ih =>
    intro u h
    by_cases h1 : u < 10
    · rw [digB_lo h1]; simp
    · rw [digB_hi h1, List.length_append]
      have := ih (u / 10) (by rw [Nat.pow_succ] at h; omega)
      simp; omega
theorem digB_len64 (u : Nat) (h : u ≤ 9223372036854775807) : (digB u).length ≤ 20 := digB_len 19 u (by omega)
theorem digB_pos (u : Nat) : 1 ≤ (digB u).length := by
  by_cases h1 : u < 10
  · rw [digB_lo h1]; simp
  · rw [digB_hi h1]; simp
theorem empty_app (a : ByteArray) : (ByteArray.mk #[] ++ a) = a := by
  have : (ByteArray.mk #[] ++ a).data = a.data := by
    rw [ByteArray.data_append]; simp
  exact ByteArray.ext this

theorem dig_end (x : Int) (T : List Int) : Ending.returned (.string (ByteArray.mk #[] ++ (strOfNums [x] ++ strOfNums T))) = Ending.returned (.string (strOfNums ([x] ++ T))) := by
  rw [empty_app, str_cons]; rfl

set_option maxHeartbeats 1000000 in
set_option maxRecDepth 1000000 in
theorem digits_any (n : Nat) (hn : n ≤ 9223372036854775807) (w : World) :
    Calls Try.prog 41 #[.int .i64 n] w fun e w' => e = .returned (.string (strOfNums (digB n))) ∧ Below w.heap.size w w' := by
  have HL : Hid ((digB n).length ≤ 20) := digB_len64 n hn
  go_enter Try.func41, Try.ntmps41
  have h0 : ¬ ((n : Int) < 0) := by omega
  go_wp2
  go_loopw [3, 5] (fun u o wr => ∃ v : Nat, ∃ O : ByteArray, ∃ T : List Int, u = .int .u64 v ∧ o = .string O ∧ v ≤ n ∧ O.size ≤ 20 ∧ Hid (O = strOfNums T) ∧ Hid (digB n = digB v ++ T) ∧ Below w.heap.size w wr) (fun u _ _ => (intOf u).toNat)
  case atStart => exact ⟨n, _, [], by first | rfl | go_num, rfl, by omega, by decide, rfl, by unfold Hid; simp, Below.refl _ _⟩
  case round =>
    obtain ⟨v, O, T, rfl, rfl, hv, hO, HO, HD, hb⟩ := hrel
    have hO2 : O.size + (digB v).length ≤ 20 := by
      have := HL.out
      rw [HD.out, List.length_append] at this
      rw [HO.out, strOfNums_size]; omega
    have hp := digB_pos v
    have hO3 : O.size ≤ 19 := by omega
    have hsz := hb.size
    have z1 : ∀ x : Int, (strOfNums [x]).size = 1 := fun x => strOfNums_size [x]
    clear hO2 hp hO
    by_cases h : v < 10
    · have HV : Hid _ := digB_lo h
      have e1 : (v : Int) / 10 = 0 := by omega
      have e2 : (v : Int) % 10 = v := by omega
      go_wp2_with (go_at_call 43; refine (chr_any _ (by omega) (by omega) _).mono ?_; rintro e w1 ⟨rfl, b1⟩)
      go_ret
      refine ⟨?_, hb.trans (b1.mono hsz)⟩
      rw [HD.out, HV.out, HO.out]
      exact dig_end _ _
    · have HV : Hid _ := digB_hi h
      have e1 : ¬ ((v : Int) / 10 = 0) := by omega
      go_wp2_with (go_at_call 43; refine (chr_any _ (by omega) (by omega) _).mono ?_; rintro e w1 ⟨rfl, b1⟩)
      go_roundw
      case rel => exact ⟨v / 10, _, (48 + (v : Int) % 10) :: T, by go_num, rfl, by omega, by rw [ByteArray.size_append, z1]; omega, by unfold Hid; rw [HO.out, str_cons], by unfold Hid; rw [HD.out, HV.out]; simp, hb.trans (b1.mono hsz)⟩
      case measure => simp [intOf]; omega

end Go.Proofs.Ytomiganjagjabaa
