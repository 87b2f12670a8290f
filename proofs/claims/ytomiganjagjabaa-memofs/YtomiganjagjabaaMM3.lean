/-
  What Put, New and Of do.
-/
import Derived.Test.YtomiganjagjabaaMM2
import Derived.Lib.AppendZerosOnto
namespace Go.Proofs.Ytomiganjagjabaa
open Go.RowKit

theorem str_row (s : ByteArray) (w : World) : ∃ W c, Hid ((convert 9 34 (.string s)).run Try.prog w = .ok (.slice (some ⟨w.heap.size, 0, none⟩) s.size c) W) ∧ s.size ≤ c ∧ Below w.heap.size w W ∧ w.heap.size < W.heap.size ∧
    ∀ (j : Nat) (x : Int), (nums s)[j]? = some x → W.cell? ⟨w.heap.size, 0 + j, none⟩ = some (.int .u8 x) := by
  refine ⟨_, _, Lib.run_convert_string_bytes w 9 34 5 s Try.underlying9 Try.underlying34 Try.underlying5, grownCap_ge _ _ _ _, ⟨rfl, rfl, rfl, by rw [Lib.bytesWorld_size]; omega, fun k hk => Lib.bytesWorld_at_old w _ s k hk⟩, by rw [Lib.bytesWorld_size]; omega, fun j x hx => ?_⟩
  have hj : j < s.size := by
    rcases Nat.lt_or_ge j s.size with h | h
    · exact h
    · rw [List.getElem?_eq_none (by rw [nums_length]; exact h)] at hx; cases hx
  rw [Nat.zero_add, Lib.bytesWorld_cell w _ s j hj]
  unfold nums at hx
  rw [List.getElem?_map] at hx
  obtain ⟨y, hy, rfl⟩ := Option.map_eq_some_iff.1 hx
  simp [List.getD, hy]
theorem MB.put {w w' : World} {P g n : Nat} {most : Int} {b d : List Int} (cap : Nat) (L : List Int) (a : Nat) (hm : MA w P g n cap most L) (hb : L.take (256 * n) = b) (hby : Bts L) (hn : n ≤ 8) (hl : b.length = 256 * n) (hd : a + d.length ≤ 256 * n) (hdb : Bts d)
    (hw : Chg g w w') (hg : w'.heap[g]? = some (.cells (bC (splice L a d)).toArray 75 (0, 0))) : MB w' P g n most (splice b a d) := by
  have hle : 256 * n ≤ L.length := by rw [hm.len]; have := hm.le; omega
  refine ⟨⟨cap, splice L a d, hm.put hw hg (length_splice _ _ _ (by omega)), ?_, splice_bts hby hdb⟩, hn, ?_⟩
  · rw [splice_take _ _ _ _ (by omega) hle, hb]
  · rw [length_splice _ _ _ (by omega)]; exact hl
set_option maxHeartbeats 1000000 in
set_option maxRecDepth 1000000 in
theorem mput_yes (P g n : Nat) (most : Int) (b : List Int) (a : Nat) (s : ByteArray) (hk : a + s.size ≤ b.length) (w : World) (h : MB w P g n most b) :
    Calls Try.prog 21 #[.pointer (some ⟨P, 0, none⟩), .int .i64 (a : Int), .string s] w fun r w' => r = .returned (.int .i64 0) ∧ MB w' P g n most (splice b a (nums s)) ∧ Chg g w w' := by
  have hl : b.length ≤ 2048 := by have := h.len; have := h.n8; omega
  have HL := mhas_any P g n most b a s.size (by omega) w h
  have he : hasB (b.length : Int) (a : Int) (s.size : Int) = true := by unfold hasB; exact decide_eq_true ⟨by omega, by omega, by omega⟩
  rw [he] at HL
  have hlt := h.lt
  obtain ⟨⟨cap, L, hm, hb, hby⟩, hn8, hlen⟩ := h
  obtain ⟨W, c, HCV, hc, hbw, hsz, hcl⟩ := str_row s w
  have HW := mwrite_any P g n cap most L w.heap.size 0 s.size c a (nums s) W (hm.under hbw) (nums_length s) (by omega) hsz hcl hn8 (by omega) hc
  have HW : Hid (type_of% HW) := HW
  have HF : Hid (∀ w', Chg g W w' → w'.heap[g]? = some (.cells (bC (splice L a (nums s))).toArray 75 (0, 0)) → MB w' P g n most (splice b a (nums s)) ∧ Chg g w w') := fun w' h1 h2 =>
    ⟨MB.put cap L a (hm.under hbw) hb hby hn8 hlen (by rw [nums_length]; omega) (nums_byte s) h1 h2, (Chg.of_below hbw).trans h1⟩
  clear hm hb hby hcl hbw hsz hc he hlen hlt
  go_enter Try.func21, Try.ntmps21
  go_wp2_with (first | (go_at_call 38; refine HL.mono ?_; rintro r w1 ⟨rfl, rfl⟩) | (refine wp_convX rfl (.tmp 15) 9 34 rfl _ rfl _ _ HCV.out ?_))
  refine HW.out.mono ?_
  rintro r w2 ⟨rfl, h1, h2⟩
  have HQ : Hid (type_of% (HF.out w2 h1 h2)) := HF.out w2 h1 h2
  clear h1 h2
  go_wp2
  go_ret
  exact ⟨rfl, HQ.out.1, HQ.out.2⟩
set_option maxHeartbeats 1000000 in
set_option maxRecDepth 1000000 in
theorem mput_no (P g n : Nat) (most : Int) (b : List Int) (a : Int) (ha : a ≤ 9223372036854775807) (s : ByteArray) (hk : hasB b.length a s.size = false) (w : World) (h : MB w P g n most b) :
    Calls Try.prog 21 #[.pointer (some ⟨P, 0, none⟩), .int .i64 a, .string s] w fun r w' => r = .returned (.int .i64 23) ∧ w' = w := by
  have HL := mhas_any P g n most b a s.size ha w h
  rw [hk] at HL
  clear h hk
  go_enter Try.func21, Try.ntmps21
  go_wp2_with (go_at_call 38; refine HL.mono ?_; rintro r w1 ⟨rfl, rfl⟩)
  go_ret
  exact ⟨rfl, rfl⟩
theorem Try.zeroPage : (Try.prog.info? 75).bind (fun i => i.zero.map fun z => (z.cells, i.size, i.bytes)) = some (Array.replicate 256 (.int .u8 0), 256, 256) := by kernel_rfl
theorem page_parts : ∃ i z, Try.prog.info? 75 = some i ∧ i.zero = some z ∧ z.cells = Array.replicate 256 (.int .u8 0) ∧ i.size = 256 ∧ i.bytes = 256 := by
  have h := Try.zeroPage
  obtain ⟨i, hi, h2⟩ := Option.bind_eq_some_iff.1 h
  obtain ⟨z, hz, h3⟩ := Option.map_eq_some_iff.1 h2
  simp only [Prod.mk.injEq] at h3
  exact ⟨i, z, hi, hz, h3.1, h3.2.1, h3.2.2⟩
theorem made_any (z : Array Value) (S m : Nat) (v : Value) (hz : z = Array.replicate S v) (hS : 0 < S) : madeCells z m = (List.replicate m v).toArray := by
  subst hz
  unfold madeCells
  apply Array.toList_inj.1
  rw [Array.toList_map]
  apply List.ext_getElem?
  intro i
  by_cases hi : i < m
  · have : i % S < S := Nat.mod_lt _ hS
    simp [hi, this]
  · rw [List.getElem?_eq_none (by simp; omega), List.getElem?_eq_none (by simp; omega)]
theorem zero_any (z : Array Value) (S m : Nat) (v : Value) (hz : z = Array.replicate S v) (hS : 0 < S) : Builtin.zeroCells z m = (List.replicate (m * S) v).toArray := by
  have h := made_any z S (m * S) v hz hS
  rw [← h]
  unfold Builtin.zeroCells madeCells
  rw [hz, Array.size_replicate]
theorem make_pages (n : Nat) (hn : n ≤ 8) (w : World) : ∃ W, Hid ((Instr.makeSlice 42 (.int .i64 (n : Int)) (.int .i64 (n : Int))).run Try.prog w = .ok (.slice (some ⟨w.heap.size, 0, none⟩) n n) W) ∧ Below w.heap.size w W ∧ W.heap[w.heap.size]? = some (.cells (bC (List.replicate (n * 256) 0)).toArray 75 (0, 0)) ∧ W.heap.size = w.heap.size + 1 := by
  obtain ⟨i, z, hi, hz, hzc, hs, hb⟩ := page_parts
  have := run_make (P := Try.prog) w 42 75 i z Try.underlying42 hi hz .i64 .i64 (n : Int) (n : Int) (by omega) (by omega) (by rw [hb]; omega) (by omega)
  rw [made_any z.cells 256 _ _ hzc (by decide), hs, Int.toNat_natCast] at this
  refine ⟨_, this, (Below.refl _ _).alloc (Nat.le_refl _) _, ?_, World.size_alloc ..⟩
  rw [heap_alloc_new, bC, List.map_replicate]
set_option maxHeartbeats 1000000 in
set_option maxRecDepth 1000000 in
theorem mnew_no (p most : Int) (h : p < 0 ∨ most < p ∨ 8 < most) (w : World) :
    Calls Try.prog 5 #[.int .i64 p, .int .i64 most] w fun r w' => r = .returned (.tuple #[.pointer none, .int .i64 1]) ∧ w' = w := by
  by_cases h1 : p < 0
  · go_enter Try.func5, Try.ntmps5
    go_wp2
    go_ret2
    exact ⟨rfl, rfl⟩
  · by_cases h2 : most < p
    · go_enter Try.func5, Try.ntmps5
      go_wp2
      go_ret2
      exact ⟨rfl, rfl⟩
    · have h3 : 8 < most := by omega
      go_enter Try.func5, Try.ntmps5
      go_wp2
      go_ret2
      exact ⟨rfl, rfl⟩
set_option maxHeartbeats 1000000 in
set_option maxRecDepth 1000000 in
theorem mnew_yes (p : Nat) (most : Int) (h1 : (p : Int) ≤ most) (h2 : most ≤ 8) (w : World) :
    Calls Try.prog 5 #[.int .i64 (p : Int), .int .i64 most] w fun r w' => r = .returned (.tuple #[.pointer (some ⟨w.heap.size + 1, 0, none⟩), .int .i64 0]) ∧ MB w' (w.heap.size + 1) w.heap.size p most (List.replicate (256 * p) 0) ∧ Below w.heap.size w w' := by
  obtain ⟨W, HMK, hbw, hnw, hsz⟩ := make_pages p (by omega) w
  have HF : Hid (∀ w', w' = W.alloc (.cells #[.slice (some ⟨w.heap.size, 0, none⟩) p p, .int .i64 most] 44) → MB w' (w.heap.size + 1) w.heap.size p most (List.replicate (256 * p) 0) ∧ Below w.heap.size w w') := by
    rintro w' rfl
    refine ⟨⟨⟨p, List.replicate (256 * p) 0, ⟨?_, ?_, by simp, Nat.le_refl _, by omega⟩, by simp, ?_⟩, by omega, by simp⟩, hbw.alloc (by omega) _⟩
    · rw [← hsz]
      exact heap_alloc_new W _
    · rw [Below.heap_alloc _ _ _ (by omega), hnw, Nat.mul_comm]
    · intro x hx
      rw [List.eq_of_mem_replicate hx]
      omega
  have hn0 : (0 : Int) ≤ (p : Int) := by omega
  clear hbw hnw
  go_enter Try.func5, Try.ntmps5
  go_wp2_with (refine wp_makeX rfl (.tmp 17) (.tmp 17) 42 rfl _ _ rfl rfl _ _ HMK.out ?_)
  go_ret2
  refine ⟨?_, HF.out _ rfl⟩
  simp
end Go.Proofs.Ytomiganjagjabaa
