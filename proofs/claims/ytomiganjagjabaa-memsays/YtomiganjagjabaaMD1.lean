/-
  The document's own memory as it lies there; what MemNew, MemOf and Bytes do.
-/
import Derived.Test.YtomiganjagjabaaMM10
namespace Go.Proofs.Ytomiganjagjabaa
open Go.RowKit

/-- The document's memory at Q: its bytes in a row at q with room for cap. -/
structure DM (w : World) (Q q : Nat) (most : Int) (b : List Int) : Prop where
  at' : ∃ (cap : Nat) (X : List Int) (fz : Nat × Nat), w.heap[Q]? = some (.cells #[.slice (some ⟨q, 0, none⟩) b.length cap, .int .i64 most] 36 (0, 0)) ∧
    w.heap[q]? = some (.cells (bC (b ++ X)).toArray 5 fz) ∧ (b ++ X).length = cap ∧ (fz = (0, 0) ∨ fz.1 = cap)
  ne : q ≠ Q
  byte : Bts b
  few : b.length ≤ 2048
theorem DM.lt {w : World} {Q q : Nat} {most : Int} {b : List Int} (h : DM w Q q most b) : Q < w.heap.size ∧ q < w.heap.size := by
  obtain ⟨cap, X, fz, h1, h2, _⟩ := h.at'
  exact ⟨(Array.getElem?_eq_some_iff.1 h1).1, (Array.getElem?_eq_some_iff.1 h2).1⟩
theorem DM.c0 {w : World} {Q q : Nat} {most : Int} {b : List Int} (h : DM w Q q most b) : ∃ cap, b.length ≤ cap ∧ w.cell? ⟨Q, 0, none⟩ = some (.slice (some ⟨q, 0, none⟩) b.length cap) := by
  obtain ⟨cap, X, fz, h1, _, h3, _⟩ := h.at'
  refine ⟨cap, by rw [← h3, List.length_append]; omega, ?_⟩
  simp [World.cell?, h1]
theorem DM.c1 {w : World} {Q q : Nat} {most : Int} {b : List Int} (h : DM w Q q most b) : w.cell? ⟨Q, 1, none⟩ = some (.int .i64 most) := by
  obtain ⟨cap, X, fz, h1, _⟩ := h.at'
  simp [World.cell?, h1]
theorem DM.cell {w : World} {Q q : Nat} {most : Int} {b : List Int} (h : DM w Q q most b) (i : Nat) (hi : i < b.length) : w.cell? ⟨q, i, none⟩ = some (.int .u8 (b.getD i 0)) := by
  obtain ⟨cap, X, fz, _, h2, _⟩ := h.at'
  simp only [World.cell?, h2]
  simp only [bC, List.map_append, List.getElem?_toArray]
  rw [List.getElem?_append_left (by rw [List.length_map]; exact hi)]
  simp [hi]
theorem DM.under {w w' : World} {Q q : Nat} {most : Int} {b : List Int} (h : DM w Q q most b) (hb : Below w.heap.size w w') : DM w' Q q most b := by
  have hl := h.lt
  obtain ⟨⟨cap, X, fz, h1, h2, h3⟩, h4, h5, h6⟩ := h
  exact ⟨⟨cap, X, fz, by rw [hb.block Q hl.1]; exact h1, by rw [hb.block q hl.2]; exact h2, h3⟩, h4, h5, h6⟩
theorem DM.keep {w w' : World} {Q q : Nat} {most : Int} {b : List Int} (h : DM w Q q most b) {G : Nat} (hw : Chg G w w') (g1 : G ≠ Q) (g2 : G ≠ q) : DM w' Q q most b := by
  have hl := h.lt
  obtain ⟨⟨cap, X, fz, h1, h2, h3⟩, h4, h5, h6⟩ := h
  exact ⟨⟨cap, X, fz, by rw [hw.block Q hl.1 (Ne.symm g1)]; exact h1, by rw [hw.block q hl.2 (Ne.symm g2)]; exact h2, h3⟩, h4, h5, h6⟩
/-- A piece of its bytes as a string. -/
theorem DM.str {w : World} {Q q : Nat} {most : Int} {b : List Int} (h : DM w Q q most b) (a k cap : Nat) (hk : a + k ≤ b.length) :
    (convert 34 9 (.slice (some ⟨q, a, none⟩) k cap)).run Try.prog w = .ok (.string (strOfNums ((b.drop a).take k))) w := by
  refine run_convert_bytes_arg w 34 5 Try.underlying34 Try.underlying5 q a k cap ((b.drop a).take k) (by rw [List.length_take, List.length_drop]; omega) ?_ 9 Try.underlying9
  intro i hi
  rw [h.cell (a + i) (by omega)]
  congr 2
  simp [List.getD, List.getElem?_take_of_lt hi]
set_option maxHeartbeats 1000000 in
set_option maxRecDepth 1000000 in
theorem dnew_no (p most : Int) (h : p < 0 ∨ most < p ∨ 8 < most) (w : World) :
    Calls Try.prog 6 #[.int .i64 p, .int .i64 most] w fun r w' => r = .returned (.tuple #[.pointer none, .int .i64 1]) ∧ w' = w := by
  by_cases h1 : p < 0
  · go_enter Try.func6, Try.ntmps6
    go_wp2
    go_ret2
    exact ⟨rfl, rfl⟩
  · by_cases h2 : most < p
    · go_enter Try.func6, Try.ntmps6
      go_wp2
      go_ret2
      exact ⟨rfl, rfl⟩
    · have h3 : 8 < most := by omega
      go_enter Try.func6, Try.ntmps6
      go_wp2
      go_ret2
      exact ⟨rfl, rfl⟩
theorem mulD (x y : Operand) (n K : Nat) (hn : n ≤ 8) (hK : K = 256 * n) (w : World) : (do eqGuard .mul 3 x y (.int .i64 256) (.int .i64 (n : Int)); binOp .mul 3 (.int .i64 256) (.int .i64 (n : Int)) : Sem Value).run Try.prog w = .ok (.int .i64 (K : Int)) w := by
  simp [go_sem]
  rw [IntKind.wrap_i64, hK, Int.emod_eq_of_lt (by omega) (by omega)]
  omega
set_option maxHeartbeats 1000000 in
set_option maxRecDepth 1000000 in
theorem dnew_yes (p : Nat) (most : Int) (h1 : (p : Int) ≤ most) (h2 : most ≤ 8) (w : World) :
    Calls Try.prog 6 #[.int .i64 (p : Int), .int .i64 most] w fun r w' => r = .returned (.tuple #[.pointer (some ⟨w.heap.size + 1, 0, none⟩), .int .i64 0]) ∧ DM w' (w.heap.size + 1) w.heap.size most (List.replicate (256 * p) 0) ∧ Below w.heap.size w w' := by
  obtain ⟨K, hK⟩ : ∃ K, K = 256 * p := ⟨_, rfl⟩
  have hK2 : K ≤ 2048 := by omega
  obtain ⟨W, HMK, hbw, hnw⟩ := make_row K hK2 w
  have HMU : Hid (∀ x y, type_of% (mulD x y p K (by omega) hK w)) := fun x y => mulD x y p K (by omega) hK w
  rw [← hK]
  have HF : Hid (∀ w', w' = W.alloc (.cells #[.slice (some ⟨w.heap.size, 0, none⟩) K K, .int .i64 most] 36) → W.heap.size = w.heap.size + 1 → DM w' (w.heap.size + 1) w.heap.size most (List.replicate K 0) ∧ Below w.heap.size w w') := by
    rintro w' rfl hsz
    refine ⟨⟨⟨K, [], (0, 0), ?_, ?_, by simp, Or.inl rfl⟩, by omega, rep_bts _, by simpa using hK2⟩, hbw.alloc (by omega) _⟩
    · rw [← hsz, List.length_replicate]
      exact heap_alloc_new W _
    · rw [Below.heap_alloc _ _ _ (by omega), hnw, List.append_nil]
  have hn0 : (0 : Int) ≤ (p : Int) := by omega
  have HSZ : Hid (W.heap.size = w.heap.size + 1) := by
    have := make_bytes K hK2 w
    rw [HMK.out] at this
    injection this with _ e
    rw [e]
    exact World.size_alloc ..
  clear hbw hnw hK hK2
  go_enter Try.func6, Try.ntmps6
  go_wp2_with (first | (refine wp_binX rfl .mul 3 3 (.const (.int .i64 256)) (.tmp 17) rfl _ _ rfl rfl _ (HMU.out _ _) ?_) | (refine wp_makeX rfl (.tmp 18) (.tmp 18) 34 rfl _ _ rfl rfl _ _ HMK.out ?_))
  go_ret2
  refine ⟨?_, HF.out _ rfl HSZ.out⟩
  have := HSZ.out
  simp [this]
end Go.Proofs.Ytomiganjagjabaa
