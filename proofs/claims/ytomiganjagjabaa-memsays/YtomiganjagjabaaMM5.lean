/-
  What Grow does.
-/
import Derived.Test.YtomiganjagjabaaMM4
namespace Go.Proofs.Ytomiganjagjabaa
open Go.RowKit

/-- append(s, make([]T, k)...) where there is room. -/
theorem run_append_in_zeros {P : Program} (w : World) (t tn ty e : TypeId) (i : TypeInfo) (z : Value) (kq kn : IntKind) (ht : P.underlying t = some (.slice e)) (htn : P.underlying tn = some (.int kn)) (hi : P.info? e = some i) (hz : i.zero = some z)
    (g sLen sCap S : Nat) (hS : i.size = S) (hb : i.bytes ≤ 1000000) (k : Nat) (hk : k ≤ 1000000) (hg : sLen + k ≤ sCap) (cur : Array Value) (T : TypeId) (hrow : w.heap[g]? = some (.cells cur T (0, 0))) (news : List Value)
    (hn : news = if k * S = 0 then [] else (Builtin.zeroCells z.cells k).toList) (hfit : sLen * S + news.length ≤ cur.size) (h1 : ∀ v ∈ news, v.oneCell' = true) :
    (Builtin.append_ #[t, tn] ty #[.slice (some ⟨g, 0, none⟩) sLen sCap, .int kq k]).run P w =
      .ok (.slice (some ⟨g, 0, none⟩) (sLen + k) sCap) (w.setRow g (cur.toList.take (sLen * S) ++ news ++ cur.toList.drop (sLen * S + news.length)).toArray) := by
  have hst := run_storeCells_at P g (sLen * S) T news 0 cur w hrow (by simpa using hfit) h1
  have hw : IntKind.i64.wrap (k : Int) = k := by rw [IntKind.wrap_i64, Int.emod_eq_of_lt (by omega) (by omega)]; omega
  have hneg : ¬ ((k : Int) < 0) := by omega
  have h48i : ¬ (281474976710656 < (k : Int) * (i.bytes : Int)) := by
    rw [← Int.natCast_mul]
    have : k * i.bytes ≤ 1000000 * 1000000 := Nat.mul_le_mul hk hb
    omega
  have hadd : (⟨g, 0, none⟩ : Addr).add (sLen * S) = ⟨g, sLen * S, none⟩ := by rw [addOf, Nat.zero_add]
  by_cases h0 : k * S = 0
  · rw [if_pos h0] at hn
    subst hn
    simp [Builtin.append_, run_underlying ht, run_underlying htn, sizeOf, typeInfo, hi, hS, asInt, asIntOf, hw, hneg, h48i, hg, h0, hadd] at hst ⊢
    rw [hst]
    rfl
  · rw [if_neg h0] at hn
    have hz2 : (Builtin.zeroCells z.cells k).toList = news := hn.symm
    simp [Builtin.append_, run_underlying ht, run_underlying htn, sizeOf, typeInfo, zeroValue, hi, hz, hS, asInt, asIntOf, hw, hneg, h48i, hg, h0, hadd, hz2] at hst ⊢
    rw [hst]
    rfl
/-- Of what was there only blocks P and g may have turned. -/
structure Ch2 (P g : Nat) (w w' : World) : Prop where
  os : w'.os = w.os
  tape : w'.tape = w.tape
  output : w'.output = w.output
  size : w.heap.size ≤ w'.heap.size
  block : ∀ k, k < w.heap.size → k ≠ P → k ≠ g → w'.heap[k]? = w.heap[k]?
theorem Ch2.below {P g B : Nat} {w w' : World} (h : Ch2 P g w w') (hP : B ≤ P) (hg : B ≤ g) (hB : B ≤ w.heap.size) : Below B w w' := ⟨h.os, h.tape, h.output, h.size, fun k hk => h.block k (by omega) (by omega) (by omega)⟩
theorem MA.set {w1 : World} {P g n' cap' : Nat} {most : Int} {L : List Int} {v : Value} (hp : w1.heap[P]? = some (.cells #[v, .int .i64 most] 44 (0, 0))) (hg : w1.heap[g]? = some (.cells (bC L).toArray 75 (0, 0))) (hl : L.length = 256 * cap') (hn : n' ≤ cap') (hne : g ≠ P) :
    MA (w1.setCell ⟨P, 0, none⟩ (.slice (some ⟨g, 0, none⟩) n' cap')) P g n' cap' most L := by
  refine ⟨?_, ?_, hl, hn, hne⟩
  · simp [World.setCell, Array.getElem?_modify, hp]
  · rw [Below.heap_setCell w1 ⟨P, 0, none⟩ _ g hne]
    exact hg
theorem rep_bts (k : Nat) : Bts (List.replicate k 0) := by
  intro x hx
  rw [List.eq_of_mem_replicate hx]
  omega
theorem grow_run (P g n u : Nat) (most : Int) (b : List Int) (ty : TypeId) (w : World) (h : MB w P g n most b) (hu : n + u ≤ 8) : ∃ g' cap cap' w1, w.cell? ⟨P, 0, none⟩ = some (.slice (some ⟨g, 0, none⟩) n cap) ∧ w1.frozen? ⟨P, 0, none⟩ = false ∧ w1.cell? ⟨P, 0, none⟩ = some (.slice (some ⟨g, 0, none⟩) n cap) ∧
    (Builtin.append_ #[42, 2] ty #[.slice (some ⟨g, 0, none⟩) n cap, .int .i64 (u : Int)]).run Try.prog w = .ok (.slice (some ⟨g', 0, none⟩) (n + u) cap') w1 ∧
    MB (w1.setCell ⟨P, 0, none⟩ (.slice (some ⟨g', 0, none⟩) (n + u) cap')) P g' (n + u) most (b ++ List.replicate (256 * u) 0) ∧ Ch2 P g w (w1.setCell ⟨P, 0, none⟩ (.slice (some ⟨g', 0, none⟩) (n + u) cap')) ∧ (g' = g ∨ w.heap.size ≤ g') := by
  have hlt := h.lt
  obtain ⟨⟨cap, L, hm, hb, hby⟩, hn8, hlen⟩ := h
  obtain ⟨i, z, hi, hz, hzc, hs, hbt⟩ := page_parts
  have hzero : ∀ k, Builtin.zeroCells z.cells k = (bC (List.replicate (k * 256) 0)).toArray := fun k => by
    rw [zero_any z.cells 256 k _ hzc (by decide), bC, List.map_replicate]
  have hle := hm.le
  have hL := hm.len
  have hL2 : 256 * n ≤ L.length := by omega
  by_cases hroom : n + u ≤ cap
  · obtain ⟨D, hD⟩ : ∃ D, D = splice L (n * 256) (List.replicate (u * 256) 0) := ⟨_, rfl⟩
    have hDl : D.length = L.length := by rw [hD, length_splice _ _ _ (by rw [List.length_replicate]; omega)]
    have hn : bC (List.replicate (u * 256) 0) = if u * 256 = 0 then [] else (Builtin.zeroCells z.cells u).toList := by
      rw [hzero]
      split
      · rename_i h0; rw [h0]; rfl
      · rfl
    have hrun := run_append_in_zeros (P := Try.prog) w 42 2 ty 75 i z .i64 .i64 Try.underlying42 Try.underlying2 hi hz g n cap 256 hs (by omega) u (by omega) hroom (bC L).toArray 75 hm.hg _ hn (by simp; omega) (bC_one _)
    have hrow : (w.setRow g (bC D).toArray).heap[g]? = some (.cells (bC D).toArray 75 (0, 0)) := setRow_heap w g _ _ _ _ hm.hg
    have hoth : ∀ k, k ≠ g → (w.setRow g (bC D).toArray).heap[k]? = w.heap[k]? := fun k hk => setRow_other w g k _ hk
    have e : ((bC L).toArray.toList.take (n * 256) ++ bC (List.replicate (u * 256) 0) ++ (bC L).toArray.toList.drop (n * 256 + (bC (List.replicate (u * 256) 0)).length)).toArray = (bC D).toArray := by
      rw [hD, bC_splice]
      unfold splice
      simp
    rw [e] at hrun
    have hp1 : (w.setRow g (bC D).toArray).heap[P]? = some (.cells #[.slice (some ⟨g, 0, none⟩) n cap, .int .i64 most] 44 (0, 0)) := by rw [hoth P (Ne.symm hm.ne)]; exact hm.hp
    refine ⟨g, cap, cap, _, hm.c0, by simp [World.frozen?, hp1], by simp [World.cell?, hp1], hrun, ⟨⟨cap, D, MA.set hp1 hrow (by omega) hroom hm.ne, ?_, ?_⟩, hu, ?_⟩, ⟨rfl, rfl, rfl, ?_, ?_⟩, Or.inl rfl⟩
    · rw [hD]
      unfold splice
      rw [← List.append_assoc, List.take_append_of_le_length (by rw [List.length_append, List.length_take, List.length_replicate]; omega), List.take_of_length_le (by rw [List.length_append, List.length_take, List.length_replicate]; omega), Nat.mul_comm n 256, hb, Nat.mul_comm u 256]
    · rw [hD]
      exact splice_bts hby (rep_bts _)
    · rw [List.length_append, List.length_replicate]; omega
    · simp [World.setCell, World.setRow]
    · intro k hk h1 h2
      rw [Below.heap_setCell _ ⟨P, 0, none⟩ _ k h1, hoth k h2]
  · have hold : (Builtin.firstCells i.size n (.slice (some ⟨g, 0, none⟩) n cap)).run Try.prog w.drew = .ok (bC (L.take (n * 256))).toArray w.drew := by
      have := run_loadCells_list (P := Try.prog) w.drew ⟨g, 0, none⟩ (bC (L.take (n * 256))) (fun j v hv => by
        have := row_cell (w := w.drew) hm.hg 0 (n * 256) j v (by rw [List.drop_zero]; exact hv)
        exact this)
      have el : (bC (L.take (n * 256))).length = n * i.size := by rw [hs, List.length_map, List.length_take]; omega
      rw [el] at this
      exact this
    have hu0 : 0 < u := by omega
    have hfit : Builtin.nextslicecap (n + u) cap * i.bytes ≤ 281474976710656 := by
      rw [hbt]
      have : Builtin.nextslicecap (n + u) cap ≤ 16 := by
        unfold Builtin.nextslicecap
        split
        · omega
        · rw [if_pos (by omega)]; omega
      omega
    have hrun := Lib.run_append_grow_zeros (P := Try.prog) w 42 2 ty 75 i z .i64 .i64 Try.underlying42 Try.underlying2 hi hz (some ⟨g, 0, none⟩) n cap (bC (L.take (n * 256))) hold u hu0 (by omega) (by omega) (by omega) (by rw [hbt]; omega) hfit
    have hge := grownCap_ge w (n + u) cap 75
    obtain ⟨c', hc'⟩ : ∃ c', c' = grownCap w (n + u) cap 75 := ⟨_, rfl⟩
    rw [← hc'] at hrun hge
    obtain ⟨D, hD⟩ : ∃ D, D = L.take (n * 256) ++ List.replicate (u * 256) 0 ++ List.replicate ((c' - (n + u)) * 256) 0 := ⟨_, rfl⟩
    have e : (bC (L.take (n * 256))).toArray ++ Builtin.zeroCells z.cells u ++ Builtin.zeroCells z.cells (c' - (n + u)) = (bC D).toArray := by
      rw [hzero, hzero, hD]
      simp
    rw [e] at hrun
    have hDl : D.length = 256 * c' := by
      rw [hD, List.length_append, List.length_append, List.length_take, List.length_replicate, List.length_replicate]
      omega
    have hp1 : (w.drew.alloc (.cells (bC D).toArray 75)).heap[P]? = some (.cells #[.slice (some ⟨g, 0, none⟩) n cap, .int .i64 most] 44 (0, 0)) := by
      rw [Below.heap_alloc w.drew _ P hlt.1]
      exact hm.hp
    refine ⟨w.heap.size, cap, c', _, hm.c0, by simp only [World.frozen?, hp1]; rfl, by simp only [World.cell?, hp1]; rfl, hrun, ⟨⟨c', D, MA.set hp1 (heap_alloc_new w.drew _) hDl hge (by omega), ?_, ?_⟩, hu, ?_⟩, ⟨rfl, rfl, rfl, ?_, ?_⟩, Or.inr (Nat.le_refl _)⟩
    · rw [hD, List.take_append_of_le_length (by rw [List.length_append, List.length_take, List.length_replicate]; omega), List.take_of_length_le (by rw [List.length_append, List.length_take, List.length_replicate]; omega), Nat.mul_comm n 256, hb, Nat.mul_comm u 256]
    · rw [hD]
      intro x hx
      rcases List.mem_append.1 hx with hx | hx
      · rcases List.mem_append.1 hx with hx | hx
        · exact hby x (List.mem_of_mem_take hx)
        · exact rep_bts _ x hx
      · exact rep_bts _ x hx
    · rw [List.length_append, List.length_replicate]; omega
    · have : (w.drew.alloc (.cells (bC D).toArray 75)).heap.size = w.heap.size + 1 := World.size_alloc ..
      rw [World.setCell, Array.size_modify, this]
      omega
    · intro k hk h1 _
      rw [Below.heap_setCell _ ⟨P, 0, none⟩ _ k h1, Below.heap_alloc w.drew _ k hk]
      rfl
theorem u32_of (x : Int) : ∃ u : Nat, x % 4294967296 = (u : Int) ∧ (u : Int) ≤ 4294967295 := ⟨(x % 4294967296).toNat, by omega, by omega⟩
set_option maxHeartbeats 1000000 in
set_option maxRecDepth 1000000 in
theorem mgrow_no (P g n u : Nat) (most x : Int) (b : List Int) (hx : x % 4294967296 = (u : Int)) (hm : (n : Int) ≤ most ∧ most ≤ 8) (hu : most - n < (u : Int)) (w : World) (h : MB w P g n most b) :
    Calls Try.prog 17 #[.pointer (some ⟨P, 0, none⟩), .int .i64 x] w fun r w' => r = .returned (.int .i64 (-1)) ∧ w' = w := by
  have HS := msize_any P g n most b w h
  have hc1 := h.c1
  have hw : wrap64 (most - (n : Int)) = most - n := by
    unfold wrap64
    rw [Int.emod_eq_of_lt (by omega) (by omega)]
    omega
  have hw2 : wrap64 (u : Int) = u := by
    unfold wrap64
    rw [Int.emod_eq_of_lt (by omega) (by omega)]
    omega
  clear h hm
  go_enter Try.func17, Try.ntmps17
  go_wp2_with (go_at_call 8; refine HS.mono ?_; rintro r w1 ⟨rfl, rfl⟩)
  go_ret
  exact ⟨rfl, rfl⟩
set_option maxHeartbeats 1000000 in
set_option maxRecDepth 1000000 in
theorem mgrow_yes (P g n u : Nat) (most x : Int) (b : List Int) (hx : x % 4294967296 = (u : Int)) (hm : (n : Int) ≤ most ∧ most ≤ 8) (hu : (u : Int) ≤ most - n) (w : World) (h : MB w P g n most b) :
    Calls Try.prog 17 #[.pointer (some ⟨P, 0, none⟩), .int .i64 x] w fun r w' => ∃ g', r = .returned (.int .i64 (n : Int)) ∧ MB w' P g' (n + u) most (b ++ List.replicate (256 * u) 0) ∧ Ch2 P g w w' ∧ (g' = g ∨ w.heap.size ≤ g') := by
  have HS := msize_any P g n most b w h
  have hc1 := h.c1
  have hw : wrap64 (most - (n : Int)) = most - n := by
    unfold wrap64
    rw [Int.emod_eq_of_lt (by omega) (by omega)]
    omega
  have hw2 : wrap64 (u : Int) = u := wrap64_few u (by omega)
  have hng : ¬ (most - (n : Int) < (u : Int)) := by omega
  obtain ⟨g', cap, cap', w1, hc0, hf1, hcw, HRUN, HMB, HCH, HG⟩ := grow_run P g n u most b 42 w h (by omega)
  have HRUN : Hid (type_of% HRUN) := HRUN
  have HMB : Hid (type_of% HMB) := HMB
  have HCH : Hid (type_of% HCH) := HCH
  have HG : Hid (type_of% HG) := HG
  clear h hm hu
  go_enter Try.func17, Try.ntmps17
  go_wp2_with (first | (go_at_call 8; refine HS.mono ?_; rintro r w1 ⟨rfl, rfl⟩) | (at_builtin; refine Lib.wpList_append_run _ rfl _ _ _ _ rfl _ _ rfl rfl _ _ HRUN.out ?_))
  go_ret
  exact ⟨g', rfl, HMB.out, HCH.out, HG.out⟩
end Go.Proofs.Ytomiganjagjabaa
