/-
  What the document's own LebReadU and LebReadS answer, for every text and every number of bits: what leb.ReadU and leb.ReadS answer.
-/
import Derived.Test.YtnkeeaelomalkaaRefReadS
namespace Go.Proofs.Ytnkeeaelomalkaa
open Go.RowKit

theorem at_front (s : ByteArray) (f t : List Int) (h : nums s = f ++ t) (hf : ∀ b ∈ f, 128 ≤ b ∧ b < 256) (i : Nat) (hi : i < s.size) (hif : i < f.length) : 127 < (s[i].toNat : Int) := by
  have e := nums_get s i hi
  rw [h, List.getD_eq_getElem?_getD, List.getElem?_append_left hif, List.getElem?_eq_getElem hif, Option.getD_some] at e
  have := hf _ (List.getElem_mem hif)
  omega
theorem at_last (s : ByteArray) (f t : List Int) (b : Int) (h : nums s = f ++ b :: t) : ∃ hi : f.length < s.size, (s[f.length].toNat : Int) = b ∧ (nums s).take (f.length + 1) = f ++ [b] := by
  have hi : f.length < s.size := by rw [← nums_length, h, List.length_append, List.length_cons]; omega
  refine ⟨hi, ?_, ?_⟩
  · rw [← nums_get s f.length hi, h]; simp
  · rw [h, List.take_append]
    rw [List.take_of_length_le (by omega), show f.length + 1 - f.length = 1 from by omega]; rfl
theorem fitU_of (b : Int) (r : Nat) (h0 : 0 ≤ b) (h : b < 2 ^ r) : fitU b r = true := by
  simp only [fitU, beq_iff_eq, Int.toNat_natCast]; exact Int.ediv_eq_zero_of_lt h0 h

theorem refReadU_all32 (s : ByteArray) (hs : s.size ≤ maxLen) (n k e : Int) (h : rU 32 (nums s) = (n, k, e)) (w : World) :
    Calls Try.prog 14 #[.string s, .int .i64 32] w fun e' w' => e' = .returned (.tuple #[.int .u64 n, .int .i64 k, .int .i64 e]) ∧ Below w.heap.size w w' := by
  have hbd := rU_bound 32 (nums s) (nums_byte s)
  rw [rU, if_pos (by simp)] at h hbd
  obtain ⟨f, hf, hc⟩ := split_bytes (nums s) (nums_byte s)
  by_cases hlen : 4 < f.length
  · have hs' : f = f.take 5 ++ f.drop 5 := (List.take_append_drop _ f).symm
    have h1 : ∀ b ∈ f.take 5, 128 ≤ b ∧ b < 256 := fun x hx => hf x (List.mem_of_mem_take hx)
    have h2 : (f.take 5).length = 4 + 1 := by rw [List.length_take]; omega
    obtain ⟨t, ht⟩ : ∃ t, nums s = f ++ t := by
      rcases hc with hc | ⟨b, t, hc, _⟩
      · exact ⟨[], by rw [List.append_nil]; exact hc⟩
      · exact ⟨b :: t, hc⟩
    have hr : rdl fitU 32 (nums s) 0 0 = (0, 0, 4) := by
      rw [ht, hs', List.append_assoc]; exact rdl_long _ _ h1 4 h2 (by omega) (by omega)
    rw [hr] at h
    obtain ⟨rfl, rfl, rfl⟩ := h
    have hsz : f.length ≤ s.size := by rw [← nums_length, ht, List.length_append]; omega
    exact refReadU_err32 s 4 rfl (fun w => span_form32 s hs (by omega) (fun i hi h5 => at_front s f t ht hf i hi (by omega)) w) w
  · rcases hc with hc | ⟨b, t, hc, hb0, hb⟩
    · have hr : rdl fitU 32 (nums s) 0 0 = (0, 0, 3) := by rw [hc]; exact rdl_short _ hf (by omega)
      rw [hr] at h
      obtain ⟨rfl, rfl, rfl⟩ := h
      have hsz : s.size = f.length := by rw [← nums_length, hc]
      exact refReadU_err32 s 3 rfl (fun w => span_short32 s hs (by omega) (fun i hi => at_front s f [] (by rw [List.append_nil]; exact hc) hf i hi (by omega)) w) w
    · obtain ⟨hi, hlast, htake⟩ := at_last s f t b hc
      have hspan : ∀ w, Calls Try.prog 24 #[.string s, .int .i64 32] w fun e' w' => e' = .returned (.tuple #[.int .i64 ((f.length : Int) + 1), .int .i64 5, .int .i64 0]) ∧ w' = w :=
        fun w => span_good32 s hs f.length (by omega) hi (fun i hi' hif => at_front s f (b :: t) hc hf i hi' hif) (by omega) w
      by_cases hbad : f.length = 4 ∧ 16 ≤ b
      · have hr : rdl fitU 32 (nums s) 0 0 = (0, 0, 4) := by
          rw [hc]
          refine rdl_bad f t b hf (by omega) (by omega) ?_
          cases hfit : fitU b (32 - 7 * (f.length : Int)) with
          | false => rfl
          | true =>
            rw [show (32 - 7 * (f.length : Int)) = ((4 : Nat) : Int) from by omega] at hfit
            have := fitU_lt hfit
            omega
        rw [hr] at h
        obtain ⟨rfl, rfl, rfl⟩ := h
        have hm : 4 < s.size := by omega
        refine refReadU_form32 s hm ?_ ?_ w
        · have : s[4] = s[f.length] := by congr 1; omega
          rw [this, hlast]; omega
        · intro w
          have := hspan w
          rw [show (f.length : Int) + 1 = 5 from by omega] at this
          exact this
      · have hr : rdl fitU 32 (nums s) 0 0 = (val (f ++ [b]), (f.length : Int) + 1, 0) := by
          rw [hc]
          refine rdl_good f t b hf hb0 hb (by omega) ?_
          intro h7
          have e1 : f.length = 4 := by omega
          rw [show (32 - 7 * (f.length : Int)) = ((4 : Nat) : Int) from by omega]
          exact fitU_of b 4 hb0 (by omega)
        rw [hr] at h hbd
        obtain ⟨rfl, rfl, rfl⟩ := h
        exact refReadU_good32 s f.length (by omega) hi _ (by omega) (by unfold Hid; rw [htake]) (by intro e1; rw [hlast]; omega) hspan w

theorem refReadU_all64 (s : ByteArray) (hs : s.size ≤ maxLen) (n k e : Int) (h : rU 64 (nums s) = (n, k, e)) (w : World) :
    Calls Try.prog 14 #[.string s, .int .i64 64] w fun e' w' => e' = .returned (.tuple #[.int .u64 n, .int .i64 k, .int .i64 e]) ∧ Below w.heap.size w w' := by
  have hbd := rU_bound 64 (nums s) (nums_byte s)
  rw [rU, if_pos (by simp)] at h hbd
  obtain ⟨f, hf, hc⟩ := split_bytes (nums s) (nums_byte s)
  by_cases hlen : 9 < f.length
  · have hs' : f = f.take 10 ++ f.drop 10 := (List.take_append_drop _ f).symm
    have h1 : ∀ b ∈ f.take 10, 128 ≤ b ∧ b < 256 := fun x hx => hf x (List.mem_of_mem_take hx)
    have h2 : (f.take 10).length = 9 + 1 := by rw [List.length_take]; omega
    obtain ⟨t, ht⟩ : ∃ t, nums s = f ++ t := by
      rcases hc with hc | ⟨b, t, hc, _⟩
      · exact ⟨[], by rw [List.append_nil]; exact hc⟩
      · exact ⟨b :: t, hc⟩
    have hr : rdl fitU 64 (nums s) 0 0 = (0, 0, 4) := by
      rw [ht, hs', List.append_assoc]; exact rdl_long _ _ h1 9 h2 (by omega) (by omega)
    rw [hr] at h
    obtain ⟨rfl, rfl, rfl⟩ := h
    have hsz : f.length ≤ s.size := by rw [← nums_length, ht, List.length_append]; omega
    exact refReadU_err64 s 4 rfl (fun w => span_form64 s hs (by omega) (fun i hi h5 => at_front s f t ht hf i hi (by omega)) w) w
  · rcases hc with hc | ⟨b, t, hc, hb0, hb⟩
    · have hr : rdl fitU 64 (nums s) 0 0 = (0, 0, 3) := by rw [hc]; exact rdl_short _ hf (by omega)
      rw [hr] at h
      obtain ⟨rfl, rfl, rfl⟩ := h
      have hsz : s.size = f.length := by rw [← nums_length, hc]
      exact refReadU_err64 s 3 rfl (fun w => span_short64 s hs (by omega) (fun i hi => at_front s f [] (by rw [List.append_nil]; exact hc) hf i hi (by omega)) w) w
    · obtain ⟨hi, hlast, htake⟩ := at_last s f t b hc
      have hspan : ∀ w, Calls Try.prog 24 #[.string s, .int .i64 64] w fun e' w' => e' = .returned (.tuple #[.int .i64 ((f.length : Int) + 1), .int .i64 10, .int .i64 0]) ∧ w' = w :=
        fun w => span_good64 s hs f.length (by omega) hi (fun i hi' hif => at_front s f (b :: t) hc hf i hi' hif) (by omega) w
      by_cases hbad : f.length = 9 ∧ 2 ≤ b
      · have hr : rdl fitU 64 (nums s) 0 0 = (0, 0, 4) := by
          rw [hc]
          refine rdl_bad f t b hf (by omega) (by omega) ?_
          cases hfit : fitU b (64 - 7 * (f.length : Int)) with
          | false => rfl
          | true =>
            rw [show (64 - 7 * (f.length : Int)) = ((1 : Nat) : Int) from by omega] at hfit
            have := fitU_lt hfit
            omega
        rw [hr] at h
        obtain ⟨rfl, rfl, rfl⟩ := h
        have hm : 9 < s.size := by omega
        refine refReadU_form64 s hm ?_ ?_ w
        · have : s[9] = s[f.length] := by congr 1; omega
          rw [this, hlast]; omega
        · intro w
          have := hspan w
          rw [show (f.length : Int) + 1 = 10 from by omega] at this
          exact this
      · have hr : rdl fitU 64 (nums s) 0 0 = (val (f ++ [b]), (f.length : Int) + 1, 0) := by
          rw [hc]
          refine rdl_good f t b hf hb0 hb (by omega) ?_
          intro h7
          have e1 : f.length = 9 := by omega
          rw [show (64 - 7 * (f.length : Int)) = ((1 : Nat) : Int) from by omega]
          exact fitU_of b 1 hb0 (by omega)
        rw [hr] at h hbd
        obtain ⟨rfl, rfl, rfl⟩ := h
        exact refReadU_good64 s f.length (by omega) hi _ (by omega) (by unfold Hid; rw [htake]) (by intro e1; rw [hlast]; omega) hspan w

theorem fitS_iff32 (b : Int) (h0 : 0 ≤ b) (h1 : b < 128) : fitS b 4 = false ↔ ((8 ≤ b ∧ b < 64) ∨ (64 ≤ b ∧ b < 120)) := by
  obtain ⟨m, rfl⟩ : ∃ m : Nat, b = m := ⟨b.toNat, by omega⟩
  have H : ∀ m : Fin 128, (fitS (m.val : Int) 4 = false) ↔ ((8 ≤ (m.val : Int) ∧ (m.val : Int) < 64) ∨ (64 ≤ (m.val : Int) ∧ (m.val : Int) < 120)) := by decide +kernel
  exact H ⟨m, by omega⟩
theorem refReadS_all32 (s : ByteArray) (hs : s.size ≤ maxLen) (n k e : Int) (h : rS 32 (nums s) = (n, k, e)) (w : World) :
    Calls Try.prog 16 #[.string s, .int .i64 32] w fun e' w' => e' = .returned (.tuple #[.int .i64 n, .int .i64 k, .int .i64 e]) ∧ Below w.heap.size w w' := by
  have hres := resS 32 (by simp) (nums s) (nums_byte s)
  obtain ⟨f, hf, hc⟩ := split_bytes (nums s) (nums_byte s)
  by_cases hlen : 4 < f.length
  · have hs' : f = f.take 5 ++ f.drop 5 := (List.take_append_drop _ f).symm
    have h1 : ∀ b ∈ f.take 5, 128 ≤ b ∧ b < 256 := fun x hx => hf x (List.mem_of_mem_take hx)
    have h2 : (f.take 5).length = 4 + 1 := by rw [List.length_take]; omega
    obtain ⟨t, ht⟩ : ∃ t, nums s = f ++ t := by
      rcases hc with hc | ⟨b, t, hc, _⟩
      · exact ⟨[], by rw [List.append_nil]; exact hc⟩
      · exact ⟨b :: t, hc⟩
    have hr : rdl fitS 32 (nums s) 0 0 = (0, 0, 4) := by
      rw [ht, hs', List.append_assoc]; exact rdl_long _ _ h1 4 h2 (by omega) (by omega)
    rw [rS, if_pos (by simp), hr] at h
    simp at h
    obtain ⟨rfl, rfl, rfl⟩ := h
    have hsz : f.length ≤ s.size := by rw [← nums_length, ht, List.length_append]; omega
    exact refReadS_err32 s 4 rfl (fun w => span_form32 s hs (by omega) (fun i hi h5 => at_front s f t ht hf i hi (by omega)) w) w
  · rcases hc with hc | ⟨b, t, hc, hb0, hb⟩
    · have hr : rdl fitS 32 (nums s) 0 0 = (0, 0, 3) := by rw [hc]; exact rdl_short _ hf (by omega)
      rw [rS, if_pos (by simp), hr] at h
      simp at h
      obtain ⟨rfl, rfl, rfl⟩ := h
      have hsz : s.size = f.length := by rw [← nums_length, hc]
      exact refReadS_err32 s 3 rfl (fun w => span_short32 s hs (by omega) (fun i hi => at_front s f [] (by rw [List.append_nil]; exact hc) hf i hi (by omega)) w) w
    · obtain ⟨hi, hlast, htake⟩ := at_last s f t b hc
      have hspan : ∀ w, Calls Try.prog 24 #[.string s, .int .i64 32] w fun e' w' => e' = .returned (.tuple #[.int .i64 ((f.length : Int) + 1), .int .i64 5, .int .i64 0]) ∧ w' = w :=
        fun w => span_good32 s hs f.length (by omega) hi (fun i hi' hif => at_front s f (b :: t) hc hf i hi' hif) (by omega) w
      by_cases hbad : f.length = 4 ∧ ((8 ≤ b ∧ b < 64) ∨ (64 ≤ b ∧ b < 120))
      · have hr : rdl fitS 32 (nums s) 0 0 = (0, 0, 4) := by
          rw [hc]
          refine rdl_bad f t b hf (by omega) (by omega) ?_
          rw [show (32 - 7 * (f.length : Int)) = 4 from by omega]
          exact (fitS_iff32 b hb0 hb).2 hbad.2
        rw [rS, if_pos (by simp), hr] at h
        simp at h
        obtain ⟨rfl, rfl, rfl⟩ := h
        have hm : 4 < s.size := by omega
        have hl : (s[4].toNat : Int) = b := by
          have : s[4] = s[f.length] := by congr 1; omega
          rw [this, hlast]
        have hsp : ∀ w, Calls Try.prog 24 #[.string s, .int .i64 32] w fun e' w' => e' = .returned (.tuple #[.int .i64 5, .int .i64 5, .int .i64 0]) ∧ w' = w := by
          intro w
          have := hspan w
          rw [show (f.length : Int) + 1 = 5 from by omega] at this
          exact this
        rcases hbad.2 with hb1 | hb1
        · exact refReadS_form32c0 s hm (by omega) (by omega) hsp w
        · exact refReadS_form32c1 s hm (by omega) (by omega) (by omega) hsp w
      · have hr : rdl fitS 32 (nums s) 0 0 = (val (f ++ [b]), (f.length : Int) + 1, 0) := by
          rw [hc]
          refine rdl_good f t b hf hb0 hb (by omega) ?_
          intro h7
          have e1 : f.length = 4 := by omega
          rw [show (32 - 7 * (f.length : Int)) = 4 from by omega]
          cases hfit : fitS b 4 with
          | true => rfl
          | false => exact absurd ⟨e1, (fitS_iff32 b hb0 hb).1 hfit⟩ hbad
        have e0 : ((f.length : Int) + 1 - 1).toNat = f.length := by omega
        have e1 : ((f.length : Int) + 1).toNat = f.length + 1 := by omega
        have e2 : (nums s).getD f.length 0 = b := by rw [nums_get s f.length hi]; exact hlast
        have hv : rS 32 (nums s) = (val (f ++ [b]) - (if 64 ≤ b then 128 ^ (f.length + 1) else 0), (f.length : Int) + 1, 0) := by
          rw [rS, if_pos (by simp), hr]
          simp only [e0, e1, e2, if_true]
        have hbd : -9223372036854775808 ≤ n ∧ n ≤ 9223372036854775807 := by
          rw [hv] at h hres
          injection h with h _
          rcases hres with ⟨e', he', h'⟩ | ⟨n', k', g1, g2, _, _, h'⟩
          · injection h' with _ h'
            injection h' with _ h'
            subst h'
            cases he'
          · injection h' with h' _
            omega
        rw [hv] at h
        injection h with ha h
        injection h with hk he
        subst hk he
        have hlen1 : (f ++ [b]).length = f.length + 1 := by rw [List.length_append, List.length_singleton]
        by_cases h64 : 64 ≤ b
        · rw [if_pos h64] at ha
          refine refReadS_good32c1 s f.length (by omega) hi n hbd.1 hbd.2 ?_ (by omega) (by omega) (by intro e1; omega) hspan w
          unfold Hid; rw [htake, sv_val, hlen1]; omega
        · rw [if_neg h64] at ha
          refine refReadS_good32c0 s f.length (by omega) hi n hbd.1 hbd.2 ?_ (by omega) (by intro e1; omega) hspan w
          unfold Hid; rw [htake, sv_val, hlen1]; omega

theorem fitS_iff64 (b : Int) (h0 : 0 ≤ b) (h1 : b < 128) : fitS b 1 = false ↔ ((1 ≤ b ∧ b < 64) ∨ (64 ≤ b ∧ b < 127)) := by
  obtain ⟨m, rfl⟩ : ∃ m : Nat, b = m := ⟨b.toNat, by omega⟩
  have H : ∀ m : Fin 128, (fitS (m.val : Int) 1 = false) ↔ ((1 ≤ (m.val : Int) ∧ (m.val : Int) < 64) ∨ (64 ≤ (m.val : Int) ∧ (m.val : Int) < 127)) := by decide +kernel
  exact H ⟨m, by omega⟩
theorem refReadS_all64 (s : ByteArray) (hs : s.size ≤ maxLen) (n k e : Int) (h : rS 64 (nums s) = (n, k, e)) (w : World) :
    Calls Try.prog 16 #[.string s, .int .i64 64] w fun e' w' => e' = .returned (.tuple #[.int .i64 n, .int .i64 k, .int .i64 e]) ∧ Below w.heap.size w w' := by
  have hres := resS 64 (by simp) (nums s) (nums_byte s)
  obtain ⟨f, hf, hc⟩ := split_bytes (nums s) (nums_byte s)
  by_cases hlen : 9 < f.length
  · have hs' : f = f.take 10 ++ f.drop 10 := (List.take_append_drop _ f).symm
    have h1 : ∀ b ∈ f.take 10, 128 ≤ b ∧ b < 256 := fun x hx => hf x (List.mem_of_mem_take hx)
    have h2 : (f.take 10).length = 9 + 1 := by rw [List.length_take]; omega
    obtain ⟨t, ht⟩ : ∃ t, nums s = f ++ t := by
      rcases hc with hc | ⟨b, t, hc, _⟩
      · exact ⟨[], by rw [List.append_nil]; exact hc⟩
      · exact ⟨b :: t, hc⟩
    have hr : rdl fitS 64 (nums s) 0 0 = (0, 0, 4) := by
      rw [ht, hs', List.append_assoc]; exact rdl_long _ _ h1 9 h2 (by omega) (by omega)
    rw [rS, if_pos (by simp), hr] at h
    simp at h
    obtain ⟨rfl, rfl, rfl⟩ := h
    have hsz : f.length ≤ s.size := by rw [← nums_length, ht, List.length_append]; omega
    exact refReadS_err64 s 4 rfl (fun w => span_form64 s hs (by omega) (fun i hi h5 => at_front s f t ht hf i hi (by omega)) w) w
  · rcases hc with hc | ⟨b, t, hc, hb0, hb⟩
    · have hr : rdl fitS 64 (nums s) 0 0 = (0, 0, 3) := by rw [hc]; exact rdl_short _ hf (by omega)
      rw [rS, if_pos (by simp), hr] at h
      simp at h
      obtain ⟨rfl, rfl, rfl⟩ := h
      have hsz : s.size = f.length := by rw [← nums_length, hc]
      exact refReadS_err64 s 3 rfl (fun w => span_short64 s hs (by omega) (fun i hi => at_front s f [] (by rw [List.append_nil]; exact hc) hf i hi (by omega)) w) w
    · obtain ⟨hi, hlast, htake⟩ := at_last s f t b hc
      have hspan : ∀ w, Calls Try.prog 24 #[.string s, .int .i64 64] w fun e' w' => e' = .returned (.tuple #[.int .i64 ((f.length : Int) + 1), .int .i64 10, .int .i64 0]) ∧ w' = w :=
        fun w => span_good64 s hs f.length (by omega) hi (fun i hi' hif => at_front s f (b :: t) hc hf i hi' hif) (by omega) w
      by_cases hbad : f.length = 9 ∧ ((1 ≤ b ∧ b < 64) ∨ (64 ≤ b ∧ b < 127))
      · have hr : rdl fitS 64 (nums s) 0 0 = (0, 0, 4) := by
          rw [hc]
          refine rdl_bad f t b hf (by omega) (by omega) ?_
          rw [show (64 - 7 * (f.length : Int)) = 1 from by omega]
          exact (fitS_iff64 b hb0 hb).2 hbad.2
        rw [rS, if_pos (by simp), hr] at h
        simp at h
        obtain ⟨rfl, rfl, rfl⟩ := h
        have hm : 9 < s.size := by omega
        have hl : (s[9].toNat : Int) = b := by
          have : s[9] = s[f.length] := by congr 1; omega
          rw [this, hlast]
        have hsp : ∀ w, Calls Try.prog 24 #[.string s, .int .i64 64] w fun e' w' => e' = .returned (.tuple #[.int .i64 10, .int .i64 10, .int .i64 0]) ∧ w' = w := by
          intro w
          have := hspan w
          rw [show (f.length : Int) + 1 = 10 from by omega] at this
          exact this
        rcases hbad.2 with hb1 | hb1
        · exact refReadS_form64c0 s hm (by omega) (by omega) hsp w
        · exact refReadS_form64c1 s hm (by omega) (by omega) (by omega) hsp w
      · have hr : rdl fitS 64 (nums s) 0 0 = (val (f ++ [b]), (f.length : Int) + 1, 0) := by
          rw [hc]
          refine rdl_good f t b hf hb0 hb (by omega) ?_
          intro h7
          have e1 : f.length = 9 := by omega
          rw [show (64 - 7 * (f.length : Int)) = 1 from by omega]
          cases hfit : fitS b 1 with
          | true => rfl
          | false => exact absurd ⟨e1, (fitS_iff64 b hb0 hb).1 hfit⟩ hbad
        have e0 : ((f.length : Int) + 1 - 1).toNat = f.length := by omega
        have e1 : ((f.length : Int) + 1).toNat = f.length + 1 := by omega
        have e2 : (nums s).getD f.length 0 = b := by rw [nums_get s f.length hi]; exact hlast
        have hv : rS 64 (nums s) = (val (f ++ [b]) - (if 64 ≤ b then 128 ^ (f.length + 1) else 0), (f.length : Int) + 1, 0) := by
          rw [rS, if_pos (by simp), hr]
          simp only [e0, e1, e2, if_true]
        have hbd : -9223372036854775808 ≤ n ∧ n ≤ 9223372036854775807 := by
          rw [hv] at h hres
          injection h with h _
          rcases hres with ⟨e', he', h'⟩ | ⟨n', k', g1, g2, _, _, h'⟩
          · injection h' with _ h'
            injection h' with _ h'
            subst h'
            cases he'
          · injection h' with h' _
            omega
        rw [hv] at h
        injection h with ha h
        injection h with hk he
        subst hk he
        have hlen1 : (f ++ [b]).length = f.length + 1 := by rw [List.length_append, List.length_singleton]
        by_cases h64 : 64 ≤ b
        · rw [if_pos h64] at ha
          refine refReadS_good64c1 s f.length (by omega) hi n hbd.1 hbd.2 ?_ (by omega) (by omega) (by intro e1; omega) hspan w
          unfold Hid; rw [htake, sv_val, hlen1]; omega
        · rw [if_neg h64] at ha
          refine refReadS_good64c0 s f.length (by omega) hi n hbd.1 hbd.2 ?_ (by omega) (by intro e1; omega) hspan w
          unfold Hid; rw [htake, sv_val, hlen1]; omega

set_option maxHeartbeats 400000 in
theorem refReadU_bad (s : ByteArray) (B : Int) (h1 : (B != 32) = true) (h2 : (B != 64) = true) (w : World) :
    Calls Try.prog 14 #[.string s, .int .i64 B] w fun e' w' => e' = .returned (.tuple #[.int .u64 0, .int .i64 0, .int .i64 1]) ∧ Below w.heap.size w w' := by
  go_enter Try.func14, Try.ntmps14
  go_wp2_with (go_at_call 24; refine (span_bad s B h1 h2 _).mono ?_; rintro e' w' ⟨rfl, rfl⟩)
  go_ret3
  exact ⟨rfl, Below.refl _ _⟩
set_option maxHeartbeats 400000 in
theorem refReadS_bad (s : ByteArray) (B : Int) (h1 : (B != 32) = true) (h2 : (B != 64) = true) (w : World) :
    Calls Try.prog 16 #[.string s, .int .i64 B] w fun e' w' => e' = .returned (.tuple #[.int .i64 0, .int .i64 0, .int .i64 1]) ∧ Below w.heap.size w w' := by
  go_enter Try.func16, Try.ntmps16
  go_wp2_with (go_at_call 24; refine (span_bad s B h1 h2 _).mono ?_; rintro e' w' ⟨rfl, rfl⟩)
  go_ret3
  exact ⟨rfl, Below.refl _ _⟩
theorem refReadU_at (s : ByteArray) (B n k e : Int) (hs : s.size ≤ maxLen) (h : Hid (rU B (nums s) = (n, k, e))) (w : World) :
    Calls Try.prog 14 #[.string s, .int .i64 B] w fun e' w' => e' = .returned (.tuple #[.int .u64 n, .int .i64 k, .int .i64 e]) ∧ Below w.heap.size w w' := by
  by_cases hB : B = 32 ∨ B = 64
  · rcases hB with rfl | rfl
    · exact refReadU_all32 s hs n k e h.out w
    · exact refReadU_all64 s hs n k e h.out w
  · have h' := h.out
    rw [rU, if_neg hB] at h'
    injection h' with ha h'
    injection h' with hb hc
    subst ha hb hc
    exact refReadU_bad s B (by rw [bne_iff_ne]; intro h'; exact hB (.inl h')) (by rw [bne_iff_ne]; intro h'; exact hB (.inr h')) w
theorem refReadS_at (s : ByteArray) (B n k e : Int) (hs : s.size ≤ maxLen) (h : Hid (rS B (nums s) = (n, k, e))) (w : World) :
    Calls Try.prog 16 #[.string s, .int .i64 B] w fun e' w' => e' = .returned (.tuple #[.int .i64 n, .int .i64 k, .int .i64 e]) ∧ Below w.heap.size w w' := by
  by_cases hB : B = 32 ∨ B = 64
  · rcases hB with rfl | rfl
    · exact refReadS_all32 s hs n k e h.out w
    · exact refReadS_all64 s hs n k e h.out w
  · have h' := h.out
    rw [rS, if_neg hB] at h'
    injection h' with ha h'
    injection h' with hb hc
    subst ha hb hc
    exact refReadS_bad s B (by rw [bne_iff_ne]; intro h'; exact hB (.inl h')) (by rw [bne_iff_ne]; intro h'; exact hB (.inr h')) w

end Go.Proofs.Ytnkeeaelomalkaa
