/-
  What the document's MemOf and Bytes do.
-/
import Derived.Test.YtomiganjagjabaaMD1
namespace Go.Proofs.Ytomiganjagjabaa
open Go.RowKit

theorem wp_sliceLHX {P : Program} {w : World} {ops : Array Oper} {rest : List Oper} {o : Oper} {a : Act} {Q : Exit → Act → World → Prop} (hgd : o.guard = none) (x i j : Operand) (t : TypeId) (ho : o.op = .slice t x (some i) (some j) none)
    (vx vi vj : Value) (hx : a.eval x = vx) (hi : a.eval i = vi) (hj : a.eval j = vj) (p : Value) (hr : (Instr.sliceAt t vx (some vi) (some vj) none).run P w = .ok p w) (h : wpList P ops Q rest (a.put o.dst p) w) : wpList P ops Q (o :: rest) a w := by
  refine wpList_plain hgd fun K hK => ?_
  unfold Oper.wp
  simp [execOp, ho, hx, hi, hj, hr, Result.andThen]
  exact hK _ _ h
set_option maxHeartbeats 1000000 in
set_option maxRecDepth 1000000 in
theorem dof_no (s : ByteArray) (most : Int) (hs : s.size ≤ 140737488355328) (h : ¬ ofOk s most) (w : World) :
    Calls Try.prog 11 #[.string s, .int .i64 most] w fun r w' => r = .returned (.tuple #[.pointer none, .int .i64 1]) ∧ w' = w := by
  obtain ⟨r, hr⟩ : ∃ r, r = s.size % 256 := ⟨_, rfl⟩
  have hrr : ∀ z : Int, z = (s.size : Int) → z.tmod 256 = (r : Int) := fun z hz => by rw [hz, Int.tmod_eq_emod_of_nonneg (by omega), hr]; rfl
  unfold ofOk at h
  by_cases h1 : most < 0
  · clear h hrr
    go_enter Try.func11, Try.ntmps11
    go_wp2
    go_ret2
    exact ⟨rfl, rfl⟩
  by_cases h2 : 8 < most
  · clear h hrr
    go_enter Try.func11, Try.ntmps11
    go_wp2
    go_ret2
    exact ⟨rfl, rfl⟩
  by_cases h3 : 0 < r
  · have h4 : (0 : Int) < (r : Int) := by omega
    clear h hr
    go_enter Try.func11, Try.ntmps11
    go_wp2
    go_ret2
    exact ⟨rfl, rfl⟩
  · have h4 : ¬ (0 : Int) < (r : Int) := by omega
    have h5 : 256 * most < (s.size : Int) := by omega
    clear h hr
    go_enter Try.func11, Try.ntmps11
    go_wp2
    go_ret2
    exact ⟨rfl, rfl⟩
set_option maxHeartbeats 1000000 in
set_option maxRecDepth 1000000 in
theorem dof_yes (s : ByteArray) (most : Int) (h : ofOk s most) (w : World) :
    Calls Try.prog 11 #[.string s, .int .i64 most] w fun r w' => r = .returned (.tuple #[.pointer (some ⟨w.heap.size + 1, 0, none⟩), .int .i64 0]) ∧ DM w' (w.heap.size + 1) w.heap.size most (nums s) ∧ Below w.heap.size w w' := by
  obtain ⟨g1, g2, g3⟩ := h
  have hr : ∀ z : Int, z = (s.size : Int) → z.tmod 256 = (0 : Int) := fun z hz => by
    rw [hz, Int.tmod_eq_emod_of_nonneg (by omega)]
    omega
  have h1 : ¬ most < 0 := by omega
  have h2 : ¬ 8 < most := by omega
  have h5 : ¬ 256 * most < (s.size : Int) := by omega
  have hs : s.size ≤ 2048 := by omega
  have hrun := Lib.run_convert_string_bytes (P := Try.prog) w 9 34 5 s Try.underlying9 Try.underlying34 Try.underlying5
  obtain ⟨c, hc⟩ : ∃ c, c = grownCap w s.size 0 5 := ⟨_, rfl⟩
  have hge := grownCap_ge w s.size 0 5
  have hnew := Lib.bytesWorld_at_new w 5 s
  have hold := fun k hk => Lib.bytesWorld_at_old w 5 s k hk
  have hsz := Lib.bytesWorld_size w 5 s
  have e : Lib.bytesCells w 5 s = (bC (nums s ++ List.replicate (c - s.size) 0)).toArray := by
    unfold Lib.bytesCells nums
    rw [hc]
    apply Array.toList_inj.1
    simp
  rw [e] at hnew
  rw [← hc] at hrun hge
  have hcl : (bC (nums s ++ List.replicate (c - s.size) 0)).toArray.size = c := by
    simp [nums_length]
    omega
  rw [hcl] at hnew
  obtain ⟨W, hW⟩ : ∃ W, W = Lib.bytesWorld w 5 s := ⟨_, rfl⟩
  have hos : W.os = w.os ∧ W.tape = w.tape ∧ W.output = w.output := by rw [hW]; exact ⟨rfl, rfl, rfl⟩
  rw [← hW] at hrun hnew hold hsz
  have hbw : Below w.heap.size w W := ⟨hos.1, hos.2.1, hos.2.2, by omega, hold⟩
  have HCV : Hid (type_of% hrun) := hrun
  have HF : Hid (∀ w', w' = W.alloc (.cells #[.slice (some ⟨w.heap.size, 0, none⟩) s.size c, .int .i64 most] 36) → DM w' (w.heap.size + 1) w.heap.size most (nums s) ∧ Below w.heap.size w w') := by
    rintro w' rfl
    refine ⟨⟨⟨c, List.replicate (c - s.size) 0, (c, c + 1), ?_, ?_, ?_, Or.inr rfl⟩, by omega, nums_byte s, by rw [nums_length]; exact hs⟩, hbw.alloc (by omega) _⟩
    · rw [← hsz, nums_length]
      exact heap_alloc_new W _
    · rw [Below.heap_alloc _ _ _ (by omega), hnew]
    · rw [List.length_append, nums_length, List.length_replicate]; omega
  have HSZ : Hid (W.heap.size = w.heap.size + 1) := hsz
  clear hrun hnew hold hbw hos hW hcl e hge hc g1 g2 g3 hs hsz
  go_enter Try.func11, Try.ntmps11
  go_wp2_with (refine wp_convX rfl (.tmp 25) 9 34 rfl _ rfl _ _ HCV.out ?_)
  go_ret2
  refine ⟨?_, HF.out _ rfl⟩
  have := HSZ.out
  simp [this]
/-- A piece of its bytes, cut out. -/
theorem DM.cut {w : World} {Q q : Nat} {most : Int} {b : List Int} (h : DM w Q q most b) (a k cap : Nat) (hk : a + k ≤ b.length) (hc : b.length ≤ cap) :
    ∃ p, (Instr.sliceAt 34 (.slice (some ⟨q, 0, none⟩) b.length cap) (some (.int .i64 (a : Int))) (some (.int .i64 ((a + k : Nat) : Int))) none).run Try.prog w = .ok p w ∧ (convert 34 9 p).run Try.prog w = .ok (.string (strOfNums ((b.drop a).take k))) w := by
  have he : Try.prog.elem 34 = 5 := by unfold Program.elem; rw [Try.underlying34]
  have h1 := run_sliceAt_slice (P := Try.prog) w 34 (.slice (some ⟨q, 0, none⟩) b.length cap) (some (.int .i64 (a : Int))) (some (.int .i64 ((a + k : Nat) : Int))) none (by rw [he]; exact Try.underlying34)
  have h2 := run_slice_lh (P := Try.prog) w 34 (some ⟨q, 0, none⟩) b.length cap (by rw [he]; exact Try.underlying34) .i64 .i64 (a : Int) ((a + k : Nat) : Int) (by omega) (by omega) (by omega)
  rw [he, Try.sizeOf5] at h2
  simp only [Result.andThen_ok, Int.toNat_natCast] at h2
  refine ⟨_, h1.trans h2, ?_⟩
  unfold sliced
  by_cases hac : cap = a
  · have hk0 : k = 0 := by omega
    subst hk0
    simp [hac]
    have := h.str 0 0 0 (by omega)
    simpa using this
  · have := h.str a k (cap - a) hk
    simp [hac, addOf]
    exact this
set_option maxHeartbeats 1000000 in
set_option maxRecDepth 1000000 in
theorem dbytes_yes (Q q : Nat) (most : Int) (b : List Int) (a k : Nat) (hk : a + k ≤ b.length) (w : World) (h : DM w Q q most b) :
    Calls Try.prog 20 #[.pointer (some ⟨Q, 0, none⟩), .int .i64 (a : Int), .int .i64 (k : Int)] w fun r w' => r = .returned (.tuple #[.string (strOfNums ((b.drop a).take k)), .int .i64 0]) ∧ w' = w := by
  obtain ⟨cap, hcap, hc0⟩ := h.c0
  have hfew := h.few
  obtain ⟨p, hp, hcv⟩ := h.cut a k cap hk hcap
  have HP : Hid (type_of% hp) := hp
  have HCV : Hid (type_of% hcv) := hcv
  have h1 : ¬ (a : Int) < 0 := by omega
  have h2 : ¬ (k : Int) < 0 := by omega
  have h3 : ¬ (b.length : Int) < (a : Int) := by omega
  have h4 : ¬ (b.length : Int) - (a : Int) < (k : Int) := by omega
  clear h hp hcv hcap
  go_enter Try.func20, Try.ntmps20
  go_wp2_with (first | (refine wp_sliceLHX rfl (.tmp 35) (.tmp 36) (.tmp 39) 34 rfl _ _ _ rfl rfl rfl _ HP.out ?_) | (refine wp_convX rfl (.tmp 40) 34 9 rfl _ rfl _ _ HCV.out ?_))
  go_ret2
  exact ⟨rfl, rfl⟩
set_option maxHeartbeats 1000000 in
set_option maxRecDepth 1000000 in
theorem dbytes_no (Q q : Nat) (most : Int) (b : List Int) (a k : Int) (ha : a ≤ 9223372036854775807) (hk : hasB b.length a k = false) (w : World) (h : DM w Q q most b) :
    Calls Try.prog 20 #[.pointer (some ⟨Q, 0, none⟩), .int .i64 a, .int .i64 k] w fun r w' => r = .returned (.tuple #[.string ⟨#[]⟩, .int .i64 23]) ∧ w' = w := by
  obtain ⟨cap, hcap, hc0⟩ := h.c0
  have hfew := h.few
  have hn : ¬ (0 ≤ a ∧ 0 ≤ k ∧ k ≤ b.length - a) := by unfold hasB at hk; exact of_decide_eq_false hk
  clear h hcap hk
  by_cases h1 : a < 0
  · clear hn
    go_enter Try.func20, Try.ntmps20
    go_wp2
    go_ret2
    exact ⟨rfl, rfl⟩
  by_cases h2 : k < 0
  · clear hn
    go_enter Try.func20, Try.ntmps20
    go_wp2
    go_ret2
    exact ⟨rfl, rfl⟩
  by_cases h3 : (b.length : Int) < a
  · clear hn
    go_enter Try.func20, Try.ntmps20
    go_wp2
    go_ret2
    exact ⟨rfl, rfl⟩
  · have h4 : (b.length : Int) - a < k := by omega
    clear hn
    go_enter Try.func20, Try.ntmps20
    go_wp2
    go_ret2
    exact ⟨rfl, rfl⟩
end Go.Proofs.Ytomiganjagjabaa
