/-
  What append does to the document's memory when it grows.
-/
import Derived.Test.YtomiganjagjabaaMD5
import Derived.Test.YtomiganjagjabaaMM5
namespace Go.Proofs.Ytomiganjagjabaa
open Go.RowKit

theorem growBy_few (n c : Nat) (hc : c ≤ 2048) : Builtin.growBy n 4 c ≤ 100000 := by
  unfold Builtin.growBy
  split
  · omega
  · unfold Builtin.growBy
    split
    · omega
    · unfold Builtin.growBy
      split
      · omega
      · unfold Builtin.growBy
        split
        · omega
        · unfold Builtin.growBy
          omega
theorem dgrow_run (Q q K : Nat) (most : Int) (b : List Int) (ty : TypeId) (w : World) (h : DM w Q q most b) (hK : b.length + K ≤ 2048) : ∃ q' cap cap' w1, w.cell? ⟨Q, 0, none⟩ = some (.slice (some ⟨q, 0, none⟩) b.length cap) ∧ w1.frozen? ⟨Q, 0, none⟩ = false ∧ w1.cell? ⟨Q, 0, none⟩ = some (.slice (some ⟨q, 0, none⟩) b.length cap) ∧
    (Builtin.append_ #[34, 2] ty #[.slice (some ⟨q, 0, none⟩) b.length cap, .int .i64 (K : Int)]).run Try.prog w = .ok (.slice (some ⟨q', 0, none⟩) (b.length + K) cap') w1 ∧
    DM (w1.setCell ⟨Q, 0, none⟩ (.slice (some ⟨q', 0, none⟩) (b.length + K) cap')) Q q' most (b ++ List.replicate K 0) ∧ Ch2 Q q w (w1.setCell ⟨Q, 0, none⟩ (.slice (some ⟨q', 0, none⟩) (b.length + K) cap')) ∧ (q' = q ∨ w.heap.size ≤ q') := by
  have hlt := h.lt
  have hby := h.byte
  obtain ⟨⟨cap, X, fz, hQ, hq, hl, hf⟩, hne, _, _⟩ := h
  obtain ⟨i0, hi, hz0, hz1, hz2⟩ := info_parts Try.infoU8
  have hc0 : w.cell? ⟨Q, 0, none⟩ = some (.slice (some ⟨q, 0, none⟩) b.length cap) := by simp [World.cell?, hQ]
  have hzero : ∀ k, Builtin.zeroCells (Value.int .u8 0).cells k = (bC (List.replicate k 0)).toArray := fun k => by
    rw [zero_any (Value.int .u8 0).cells 1 k (.int .u8 0) rfl (by decide), bC, List.map_replicate, Nat.mul_one]
  have hbb : Bts (b ++ List.replicate K 0) := fun x hx => by
    rcases List.mem_append.1 hx with hx | hx
    · exact hby x hx
    · exact rep_bts _ x hx
  have hlX : b.length + X.length = cap := by rw [← hl, List.length_append]
  by_cases hroom : b.length + K ≤ cap
  · have hn : bC (List.replicate K 0) = if K * 1 = 0 then [] else (Builtin.zeroCells (Value.int .u8 0).cells K).toList := by
      rw [hzero]
      split
      · rename_i h0; rw [Nat.mul_one] at h0; rw [h0]; rfl
      · rfl
    obtain ⟨w1, h1, h2, h3⟩ := store_row q (b.length * 1) 5 fz (List.replicate K 0) 0 (b ++ X) w hq (by rw [hl]; exact hf) (by rw [List.length_replicate, hl]; omega)
    have hrun := run_append_room (P := Try.prog) w w1 34 2 ty 5 i0 (.int .u8 0) .i64 .i64 Try.underlying34 Try.underlying2 hi hz0 q b.length cap 1 hz1 (by omega) K (by omega) hroom _ hn h1
    have hs : splice (b ++ X) (b.length * 1 + 0) (List.replicate K 0) = (b ++ List.replicate K 0) ++ X.drop K := by
      unfold splice
      rw [Nat.mul_one, Nat.add_zero, List.take_left', List.length_replicate, List.drop_append, List.drop_of_length_le (by omega), List.nil_append, show b.length + K - b.length = K by omega, List.append_assoc]
      rfl
    rw [hs] at h2
    have hQ1 : w1.heap[Q]? = some (.cells #[.slice (some ⟨q, 0, none⟩) b.length cap, .int .i64 most] 36 (0, 0)) := by rw [h3.block Q hlt.1 (Ne.symm hne)]; exact hQ
    refine ⟨q, cap, cap, w1, hc0, by simp [World.frozen?, hQ1], by simp [World.cell?, hQ1], hrun, ⟨⟨cap, X.drop K, fz, ?_, ?_, ?_, hf⟩, hne, hbb, ?_⟩, ⟨h3.os, h3.tape, h3.output, ?_, ?_⟩, Or.inl rfl⟩
    · simp [World.setCell, Array.getElem?_modify, hQ1]
    · rw [Below.heap_setCell w1 ⟨Q, 0, none⟩ _ q hne]
      exact h2
    · rw [List.length_append, List.length_append, List.length_replicate, List.length_drop]; omega
    · rw [List.length_append, List.length_replicate]; exact hK
    · have := h3.size
      simp [World.setCell]
      exact this
    · intro k hk g1 g2
      rw [Below.heap_setCell _ ⟨Q, 0, none⟩ _ k g1, h3.block k hk g2]
  · have hold : (Builtin.firstCells i0.size b.length (.slice (some ⟨q, 0, none⟩) b.length cap)).run Try.prog w.drew = .ok (bC b).toArray w.drew := by
      have := run_loadCells_list (P := Try.prog) w.drew ⟨q, 0, none⟩ (bC b) (fun j v hv => by
        have hj : j < b.length := by
          rcases Nat.lt_or_ge j b.length with h | h
          · exact h
          · rw [List.getElem?_eq_none (by rw [List.length_map]; exact h)] at hv; cases hv
        rw [addOf, Nat.zero_add]
        show w.cell? ⟨q, j, none⟩ = some v
        simp only [World.cell?, hq]
        rw [← hv]
        simp [List.getElem?_append_left, hj])
      have el : (bC b).length = b.length * i0.size := by rw [hz1, List.length_map, Nat.mul_one]
      rw [el] at this
      exact this
    have hK0 : 0 < K := by omega
    have hfit : Builtin.nextslicecap (b.length + K) cap * i0.bytes ≤ 281474976710656 := by
      rw [hz2]
      have : Builtin.nextslicecap (b.length + K) cap ≤ 100000 := by
        unfold Builtin.nextslicecap
        split
        · omega
        · split
          · omega
          · exact growBy_few _ _ (by omega)
      omega
    have hrun := Lib.run_append_grow_zeros (P := Try.prog) w 34 2 ty 5 i0 (.int .u8 0) .i64 .i64 Try.underlying34 Try.underlying2 hi hz0 (some ⟨q, 0, none⟩) b.length cap (bC b) hold K hK0 (by omega) (by omega) (by omega) (by rw [hz2]; omega) hfit
    have hge := grownCap_ge w (b.length + K) cap 5
    obtain ⟨c', hc'⟩ : ∃ c', c' = grownCap w (b.length + K) cap 5 := ⟨_, rfl⟩
    rw [← hc'] at hrun hge
    have e : (bC b).toArray ++ Builtin.zeroCells (Value.int .u8 0).cells K ++ Builtin.zeroCells (Value.int .u8 0).cells (c' - (b.length + K)) = (bC ((b ++ List.replicate K 0) ++ List.replicate (c' - (b.length + K)) 0)).toArray := by
      rw [hzero, hzero]
      simp
    rw [e] at hrun
    have hQ1 : (w.drew.alloc (.cells (bC ((b ++ List.replicate K 0) ++ List.replicate (c' - (b.length + K)) 0)).toArray 5)).heap[Q]? = some (.cells #[.slice (some ⟨q, 0, none⟩) b.length cap, .int .i64 most] 36 (0, 0)) := by
      rw [Below.heap_alloc w.drew _ Q hlt.1]
      exact hQ
    refine ⟨w.heap.size, cap, c', _, hc0, by simp only [World.frozen?, hQ1]; rfl, by simp only [World.cell?, hQ1]; rfl, hrun, ⟨⟨c', List.replicate (c' - (b.length + K)) 0, (0, 0), ?_, ?_, ?_, Or.inl rfl⟩, by omega, hbb, ?_⟩, ⟨rfl, rfl, rfl, ?_, ?_⟩, Or.inr (Nat.le_refl _)⟩
    · have := hQ1
      simp only [World.setCell, Array.getElem?_modify, hQ1]
      simp
    · rw [Below.heap_setCell _ ⟨Q, 0, none⟩ _ w.heap.size (by show w.heap.size ≠ Q; omega)]
      exact heap_alloc_new w.drew _
    · rw [List.length_append, List.length_append, List.length_replicate, List.length_replicate]; omega
    · rw [List.length_append, List.length_replicate]; exact hK
    · have : (w.drew.alloc (.cells (bC ((b ++ List.replicate K 0) ++ List.replicate (c' - (b.length + K)) 0)).toArray 5)).heap.size = w.heap.size + 1 := World.size_alloc ..
      rw [World.setCell, Array.size_modify, this]
      omega
    · intro k hk g1 _
      rw [Below.heap_setCell _ ⟨Q, 0, none⟩ _ k g1, Below.heap_alloc w.drew _ k hk]
      rfl
end Go.Proofs.Ytomiganjagjabaa
