/-
  What the document's own LebReadU answers with 32 bits, for every text: what leb.ReadU answers.
-/
import Derived.Test.YtnkeeaelomalkaaDoorRefReadUD
namespace Go.Proofs.YtnkeeaelomalkaaDoor
open Go.RowKit

theorem nums_get (s : ByteArray) (k : Nat) (h : k < s.size) : (nums s).getD k 0 = (s[k].toNat : Int) := by
  have hl : k < (nums s).length := by rw [nums_length]; exact h
  rw [List.getD_eq_getElem?_getD, List.getElem?_eq_getElem hl, Option.getD_some]
  simp only [nums, List.getElem_map]
  rfl

theorem at_front (s : ByteArray) (f t : List Int) (h : nums s = f ++ t) (hf : ∀ b ∈ f, 128 ≤ b ∧ b < 256) (i : Nat) (hi : i < s.size) (hif : i < f.length) : 127 < (s[i].toNat : Int) := by
  have e := nums_get s i hi
  rw [h, List.getD_eq_getElem?_getD, List.getElem?_append_left hif, List.getElem?_eq_getElem hif, Option.getD_some] at e
  have := hf _ (List.getElem_mem hif)
  omega
theorem at_last (s : ByteArray) (f t : List Int) (b : Int) (h : nums s = f ++ b :: t) : ∃ hi : f.length < s.size, (s[f.length].toNat : Int) = b ∧ (nums s).take (f.length + 1) = f ++ [b] := by
  have hi : f.length < s.size := by rw [← nums_length, h, List.length_append, List.length_cons]; omega
  refine ⟨hi, ?_, ?_⟩
  · rw [← nums_get s f.length hi, h]; simp
  · rw [h, List.take_append]
    rw [List.take_of_length_le (by omega), show f.length + 1 - f.length = 1 from by omega]; rfl
theorem fitU_of (b : Int) (r : Nat) (h0 : 0 ≤ b) (h : b < 2 ^ r) : fitU b r = true := by
  simp only [fitU, beq_iff_eq, Int.toNat_natCast]; exact Int.ediv_eq_zero_of_lt h0 h

theorem refReadU_all32 (s : ByteArray) (hs : s.size ≤ maxLen) (n k e : Int) (h : rU 32 (nums s) = (n, k, e)) (w : World) :
    Calls Tryd.prog 14 #[.string s, .int .i64 32] w fun e' w' => e' = .returned (.tuple #[.int .u64 n, .int .i64 k, .int .i64 e]) ∧ Below w.heap.size w w' := by
  have hbd := rU_bound 32 (nums s) (nums_byte s)
  rw [rU, if_pos (by simp)] at h hbd
  obtain ⟨f, hf, hc⟩ := split_bytes (nums s) (nums_byte s)
  by_cases hlen : 4 < f.length
  · have hs' : f = f.take 5 ++ f.drop 5 := (List.take_append_drop _ f).symm
    have h1 : ∀ b ∈ f.take 5, 128 ≤ b ∧ b < 256 := fun x hx => hf x (List.mem_of_mem_take hx)
    have h2 : (f.take 5).length = 4 + 1 := by rw [List.length_take]; omega
    obtain ⟨t, ht⟩ : ∃ t, nums s = f ++ t := by
      rcases hc with hc | ⟨b, t, hc, _⟩
      · exact ⟨[], by rw [List.append_nil]; exact hc⟩
      · exact ⟨b :: t, hc⟩
    have hr : rdl fitU 32 (nums s) 0 0 = (0, 0, 4) := by
      rw [ht, hs', List.append_assoc]; exact rdl_long _ _ h1 4 h2 (by omega) (by omega)
    rw [hr] at h
    obtain ⟨rfl, rfl, rfl⟩ := h
    have hsz : f.length ≤ s.size := by rw [← nums_length, ht, List.length_append]; omega
    exact refReadU_err32 s 4 rfl (fun w => span_form32 s hs (by omega) (fun i hi h5 => at_front s f t ht hf i hi (by omega)) w) w
  · rcases hc with hc | ⟨b, t, hc, hb0, hb⟩
    · have hr : rdl fitU 32 (nums s) 0 0 = (0, 0, 3) := by rw [hc]; exact rdl_short _ hf (by omega)
      rw [hr] at h
      obtain ⟨rfl, rfl, rfl⟩ := h
      have hsz : s.size = f.length := by rw [← nums_length, hc]
      exact refReadU_err32 s 3 rfl (fun w => span_short32 s hs (by omega) (fun i hi => at_front s f [] (by rw [List.append_nil]; exact hc) hf i hi (by omega)) w) w
    · obtain ⟨hi, hlast, htake⟩ := at_last s f t b hc
      have hspan : ∀ w, Calls Tryd.prog 22 #[.string s, .int .i64 32] w fun e' w' => e' = .returned (.tuple #[.int .i64 ((f.length : Int) + 1), .int .i64 5, .int .i64 0]) ∧ w' = w :=
        fun w => span_good32 s hs f.length (by omega) hi (fun i hi' hif => at_front s f (b :: t) hc hf i hi' hif) (by omega) w
      by_cases hbad : f.length = 4 ∧ 16 ≤ b
      · have hr : rdl fitU 32 (nums s) 0 0 = (0, 0, 4) := by
          rw [hc]
          refine rdl_bad f t b hf (by omega) (by omega) ?_
          cases hfit : fitU b (32 - 7 * (f.length : Int)) with
          | false => rfl
          | true =>
            rw [show (32 - 7 * (f.length : Int)) = ((4 : Nat) : Int) from by omega] at hfit
            have := fitU_lt hfit
            omega
        rw [hr] at h
        obtain ⟨rfl, rfl, rfl⟩ := h
        have hm : 4 < s.size := by omega
        refine refReadU_form32 s hm ?_ ?_ w
        · have : s[4] = s[f.length] := by congr 1; omega
          rw [this, hlast]; omega
        · intro w
          have := hspan w
          rw [show (f.length : Int) + 1 = 5 from by omega] at this
          exact this
      · have hr : rdl fitU 32 (nums s) 0 0 = (val (f ++ [b]), (f.length : Int) + 1, 0) := by
          rw [hc]
          refine rdl_good f t b hf hb0 hb (by omega) ?_
          intro h7
          have e1 : f.length = 4 := by omega
          rw [show (32 - 7 * (f.length : Int)) = ((4 : Nat) : Int) from by omega]
          exact fitU_of b 4 hb0 (by omega)
        rw [hr] at h hbd
        obtain ⟨rfl, rfl, rfl⟩ := h
        exact refReadU_good32 s f.length (by omega) hi _ (by omega) (by unfold Hid; rw [htake]) (by intro e1; rw [hlast]; omega) hspan w

end Go.Proofs.YtnkeeaelomalkaaDoor
