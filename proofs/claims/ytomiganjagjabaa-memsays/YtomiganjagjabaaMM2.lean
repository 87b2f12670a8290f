/-
  What the small methods of a memory do: New, Of, Size, All, Bytes, Put.
-/
import Derived.Test.YtomiganjagjabaaMM1
import Derived.Laws.MakeOwn
import Derived.Lib.ConvBytes
namespace Go.Proofs.Ytomiganjagjabaa
open Go.RowKit

theorem wp_makeX {P : Program} {w : World} {ops : Array Oper} {rest : List Oper} {o : Oper} {a : Act} {Q : Exit → Act → World → Prop} (hgd : o.guard = none) (l c : Operand) (t : TypeId) (ho : o.op = .makeSlice t l c)
    (vl vc : Value) (hl : a.eval l = vl) (hc : a.eval c = vc) (p : Value) (w' : World) (hr : (Instr.makeSlice t vl vc).run P w = .ok p w') (h : wpList P ops Q rest (a.put o.dst p) w') : wpList P ops Q (o :: rest) a w := by
  refine wpList_plain hgd fun K hK => ?_
  unfold Oper.wp
  simp [execOp, ho, hl, hc, hr, Result.andThen]
  exact hK _ _ h
theorem wp_convX {P : Program} {w : World} {ops : Array Oper} {rest : List Oper} {o : Oper} {a : Act} {Q : Exit → Act → World → Prop} (hgd : o.guard = none) (x : Operand) (s t : TypeId) (ho : o.op = .convert s t x)
    (vx : Value) (hx : a.eval x = vx) (p : Value) (w' : World) (hr : (convert s t vx).run P w = .ok p w') (h : wpList P ops Q rest (a.put o.dst p) w') : wpList P ops Q (o :: rest) a w := by
  refine wpList_plain hgd fun K hK => ?_
  unfold Oper.wp
  simp [execOp, ho, hx, hr, Result.andThen]
  exact hK _ _ h
/-- Bytes. -/
def Bts (l : List Int) : Prop := ∀ x ∈ l, 0 ≤ x ∧ x ≤ 255
def nums (s : ByteArray) : List Int := s.data.toList.map fun b => (b.toNat : Int)
theorem nums_length (s : ByteArray) : (nums s).length = s.size := by simp [nums]
theorem nums_byte (s : ByteArray) : Bts (nums s) := by
  intro x hx
  obtain ⟨b, _, rfl⟩ := List.mem_map.1 hx
  have := b.toNat_lt
  omega
theorem str_nums (s : ByteArray) : strOfNums (nums s) = s := by
  apply ByteArray.ext
  apply Array.toList_inj.1
  rw [strOfNums_data, nums, List.map_map]
  conv => rhs; rw [← List.map_id s.data.toList]
  apply List.map_congr_left
  intro x _
  simp
theorem nums_str {l : List Int} (h : Bts l) : nums (strOfNums l) = l := by
  rw [nums, strOfNums_data, List.map_map]
  conv => rhs; rw [← List.map_id l]
  apply List.map_congr_left
  intro x hx
  have := h x hx
  simp
  omega
theorem str_inj {a b : List Int} (ha : Bts a) (hb : Bts b) : strOfNums a = strOfNums b ↔ a = b := ⟨fun h => by rw [← nums_str ha, h, nums_str hb], fun h => by rw [h]⟩
/-- A memory at P, its row at g: n pages, at most so many, these bytes. -/
structure MB (w : World) (P g n : Nat) (most : Int) (b : List Int) : Prop where
  at' : ∃ cap L, MA w P g n cap most L ∧ L.take (256 * n) = b ∧ Bts L
  n8 : n ≤ 8
  len : b.length = 256 * n
theorem MB.lt {w : World} {P g n : Nat} {most : Int} {b : List Int} (h : MB w P g n most b) : P < w.heap.size ∧ g < w.heap.size := by
  obtain ⟨cap, L, h, _⟩ := h.at'
  exact h.lt
theorem MB.ne {w : World} {P g n : Nat} {most : Int} {b : List Int} (h : MB w P g n most b) : g ≠ P := by
  obtain ⟨cap, L, h, _⟩ := h.at'
  exact h.ne
theorem MB.keep {w w' : World} {P g n : Nat} {most : Int} {b : List Int} (h : MB w P g n most b) {G : Nat} (hw : Chg G w w') (h1 : G ≠ P) (h2 : G ≠ g) : MB w' P g n most b := by
  obtain ⟨⟨cap, L, h, h3⟩, h4, h5⟩ := h
  exact ⟨⟨cap, L, h.keep hw h1 h2, h3⟩, h4, h5⟩
theorem MB.under {w w' : World} {P g n : Nat} {most : Int} {b : List Int} (h : MB w P g n most b) (hw : Below w.heap.size w w') : MB w' P g n most b := by
  obtain ⟨⟨cap, L, h, h3⟩, h4, h5⟩ := h
  exact ⟨⟨cap, L, h.under hw, h3⟩, h4, h5⟩
theorem MB.byte {w : World} {P g n : Nat} {most : Int} {b : List Int} (h : MB w P g n most b) : Bts b := by
  obtain ⟨⟨cap, L, h, rfl, h3⟩, _, _⟩ := h
  exact fun x hx => h3 x (List.mem_of_mem_take hx)
theorem MB.c0 {w : World} {P g n : Nat} {most : Int} {b : List Int} (h : MB w P g n most b) : ∃ cap, w.cell? ⟨P, 0, none⟩ = some (.slice (some ⟨g, 0, none⟩) n cap) := by
  obtain ⟨cap, L, h, _⟩ := h.at'
  exact ⟨cap, h.c0⟩
theorem MB.c1 {w : World} {P g n : Nat} {most : Int} {b : List Int} (h : MB w P g n most b) : w.cell? ⟨P, 1, none⟩ = some (.int .i64 most) := by
  obtain ⟨cap, L, h, _⟩ := h.at'
  exact h.c1
theorem splice_bts {l d : List Int} {o : Nat} (h1 : Bts l) (h2 : Bts d) : Bts (splice l o d) := by
  intro x hx
  unfold splice at hx
  rcases List.mem_append.1 hx with hx | hx
  · exact h1 x (List.mem_of_mem_take hx)
  · rcases List.mem_append.1 hx with hx | hx
    · exact h2 x hx
    · exact h1 x (List.mem_of_mem_drop hx)
theorem splice_take (l d : List Int) (o n : Nat) (h : o + d.length ≤ n) (hn : n ≤ l.length) : (splice l o d).take n = splice (l.take n) o d := by
  unfold splice
  rw [List.take_append, List.take_append, List.length_take, List.take_take]
  have e1 : min n o = o := by omega
  have e2 : min o l.length = o := by omega
  have e3 : min o n = o := by omega
  rw [e1, e2, List.take_take, e3, List.drop_take, List.take_of_length_le (l := d) (by omega)]
  congr 3
  omega
set_option maxHeartbeats 1000000 in
set_option maxRecDepth 1000000 in
theorem msize_any (P g n : Nat) (most : Int) (b : List Int) (w : World) (h : MB w P g n most b) :
    Calls Try.prog 8 #[.pointer (some ⟨P, 0, none⟩)] w fun r w' => r = .returned (.int .i64 (n : Int)) ∧ w' = w := by
  obtain ⟨cap, hc⟩ := h.c0
  go_enter Try.func8, Try.ntmps8
  go_wp2
  go_ret
  exact ⟨rfl, rfl⟩
theorem mul256 (x y : Operand) (n K : Nat) (hn : n ≤ 8) (hK : K = 256 * n) (w : World) : (do eqGuard .mul 3 x y (.int .i64 (n : Int)) (.int .i64 256); binOp .mul 3 (.int .i64 (n : Int)) (.int .i64 256) : Sem Value).run Try.prog w = .ok (.int .i64 (K : Int)) w := by
  simp [go_sem]
  rw [IntKind.wrap_i64, hK, Int.emod_eq_of_lt (by omega) (by omega)]
  omega
set_option maxHeartbeats 1000000 in
set_option maxRecDepth 1000000 in
theorem mlength_any (P g n : Nat) (most : Int) (b : List Int) (w : World) (h : MB w P g n most b) :
    Calls Try.prog 24 #[.pointer (some ⟨P, 0, none⟩)] w fun r w' => r = .returned (.int .i64 (b.length : Int)) ∧ w' = w := by
  obtain ⟨cap, hc⟩ := h.c0
  have HMU : Hid (type_of% (fun x y => mul256 x y n b.length h.n8 h.len w)) := fun x y => mul256 x y n b.length h.n8 h.len w
  clear h
  go_enter Try.func24, Try.ntmps24
  go_wp2_with (refine wp_binX rfl .mul 3 3 (.tmp 7) (.const (.int .i64 256)) rfl _ _ rfl rfl _ (HMU.out _ _) ?_)
  go_ret
  exact ⟨rfl, rfl⟩
/-- All n bytes from a on are there. -/
def hasB (K a n : Int) : Bool := decide (0 ≤ a ∧ 0 ≤ n ∧ n ≤ K - a)
set_option maxHeartbeats 1000000 in
set_option maxRecDepth 1000000 in
theorem mhas_any (P g n : Nat) (most : Int) (b : List Int) (a k : Int) (ha : a ≤ 9223372036854775807) (w : World) (h : MB w P g n most b) :
    Calls Try.prog 38 #[.pointer (some ⟨P, 0, none⟩), .int .i64 a, .int .i64 k] w fun r w' => r = .returned (.bool (hasB b.length a k)) ∧ w' = w := by
  have hl : b.length ≤ 2048 := by have := h.len; have := h.n8; omega
  have HL := mlength_any P g n most b w h
  clear h
  by_cases h1 : 0 ≤ a
  · have hw : wrap64 ((b.length : Int) - a) = (b.length : Int) - a := by
      unfold wrap64
      rw [Int.emod_eq_of_lt (by omega) (by omega)]
      omega
    by_cases h2 : 0 ≤ k
    · have HE : Hid (hasB b.length a k = decide (k ≤ (b.length : Int) - a)) := by unfold Hid hasB; simp [h1, h2]
      go_enter Try.func38, Try.ntmps38
      go_wp2_with (go_at_call 24; refine HL.mono ?_; rintro r w1 ⟨rfl, rfl⟩)
      go_ret
      exact ⟨by rw [HE.out]; simp, rfl⟩
    · have HE : Hid (hasB b.length a k = false) := by unfold Hid hasB; simp [h2]
      go_enter Try.func38, Try.ntmps38
      go_wp2_with (go_at_call 24; refine HL.mono ?_; rintro r w1 ⟨rfl, rfl⟩)
      go_ret
      exact ⟨by rw [HE.out]; rfl, rfl⟩
  · have HE : Hid (hasB b.length a k = false) := by unfold Hid hasB; simp [h1]
    go_enter Try.func38, Try.ntmps38
    go_wp2_with (go_at_call 24; refine HL.mono ?_; rintro r w1 ⟨rfl, rfl⟩)
    go_ret
    exact ⟨by rw [HE.out]; rfl, rfl⟩
/-- What is read of a row as a string. -/
theorem row_string {w : World} {g len cap : Nat} {L : List Int} {t : TypeId} (h : w.heap[g]? = some (.cells (bC L).toArray t (0, 0))) (hl : L.length = len) :
    (convert 34 9 (.slice (some ⟨g, 0, none⟩) len cap)).run Try.prog w = .ok (.string (strOfNums L)) w := by
  refine run_convert_bytes_arg w 34 5 Try.underlying34 Try.underlying5 g 0 len cap L hl ?_ 9 Try.underlying9
  intro i hi
  simp only [World.cell?, h]
  have : i < L.length := by omega
  simp [this]
/-- The zero of a row of bytes. -/
theorem made_zeros (n : Nat) : madeCells (Value.int .u8 0).cells n = (bC (List.replicate n 0)).toArray := by
  unfold madeCells
  apply Array.toList_inj.1
  rw [Array.toList_map]
  apply List.ext_getElem?
  intro i
  by_cases hi : i < n
  · simp [bC, hi, Value.cells, Nat.mod_one]
  · rw [List.getElem?_eq_none (by simp; omega), List.getElem?_eq_none (by simp; omega)]
theorem make_bytes (n : Nat) (hn : n ≤ 2048) (w : World) : (Instr.makeSlice 34 (.int .i64 (n : Int)) (.int .i64 (n : Int))).run Try.prog w = .ok (.slice (some ⟨w.heap.size, 0, none⟩) n n) (w.alloc (.cells (bC (List.replicate n 0)).toArray 5)) := by
  obtain ⟨i0, hi, hz0, hz1, hz2⟩ := info_parts Try.infoU8
  have := run_make (P := Try.prog) w 34 5 i0 (.int .u8 0) Try.underlying34 hi hz0 .i64 .i64 (n : Int) (n : Int) (by omega) (by omega) (by rw [hz2]; omega) (by omega)
  rw [this, hz1, Int.toNat_natCast, Nat.mul_one, made_zeros]
theorem make_row (n : Nat) (hn : n ≤ 2048) (w : World) : ∃ W, Hid ((Instr.makeSlice 34 (.int .i64 (n : Int)) (.int .i64 (n : Int))).run Try.prog w = .ok (.slice (some ⟨w.heap.size, 0, none⟩) n n) W) ∧ Below w.heap.size w W ∧ W.heap[w.heap.size]? = some (.cells (bC (List.replicate n 0)).toArray 5 (0, 0)) :=
  ⟨_, make_bytes n hn w, (Below.refl _ _).alloc (Nat.le_refl _) _, heap_alloc_new w _⟩
set_option maxHeartbeats 1000000 in
set_option maxRecDepth 1000000 in
theorem mtext_any (P g n : Nat) (most : Int) (b : List Int) (a k : Nat) (hk : a + k ≤ b.length) (w : World) (h : MB w P g n most b) :
    Calls Try.prog 23 #[.pointer (some ⟨P, 0, none⟩), .int .i64 (a : Int), .int .i64 (k : Int)] w fun r w' => r = .returned (.string (strOfNums ((b.drop a).take k))) ∧ Below w.heap.size w w' := by
  have hl : b.length ≤ 2048 := by have := h.len; have := h.n8; omega
  have hlt := h.lt
  obtain ⟨⟨cap, L, hm, hb, hby⟩, hn8, hlen⟩ := h
  obtain ⟨W, HMK, hbw, hnw⟩ := make_row k (by omega) w
  have HR := mread_any P g n cap most L w.heap.size 0 k k a (List.replicate k 0) 5 W (hm.under hbw) hnw (by omega) (by omega) hn8 (by omega) (Nat.le_refl _) (by simp)
  have HR : Hid (type_of% HR) := HR
  have HBW : Hid (type_of% hbw) := hbw
  have HE : Hid (splice (List.replicate k 0) 0 ((L.drop a).take k) = (b.drop a).take k) := by
    unfold Hid splice
    have e : ((L.drop a).take k).length = k := by rw [List.length_take, List.length_drop, hm.len]; have := hm.le; omega
    rw [e, ← hb, List.drop_take, List.take_take]
    rw [show min k (256 * n - a) = k by omega]
    simp
  have HEL : Hid (((b.drop a).take k).length = k) := by unfold Hid; rw [List.length_take, List.length_drop]; omega
  clear hm hb hby hbw hlt hnw
  go_enter Try.func23, Try.ntmps23
  go_wp2_with (refine wp_makeX rfl (.tmp 8) (.tmp 8) 34 rfl _ _ rfl rfl _ _ HMK.out ?_)
  refine HR.out.mono ?_
  rintro r w2 ⟨rfl, hc, hg⟩
  have HB2 : Hid (Below w.heap.size w w2) := HBW.out.trans (hc.below (Nat.le_refl _) (by have := HBW.out.size; omega))
  rw [HE.out] at hg
  have HS : Hid (type_of% (row_string (len := k) (cap := k) hg HEL.out)) := row_string (len := k) (cap := k) hg HEL.out
  clear hg hc HR HMK
  go_wp2_with (refine wp_convX rfl (.tmp 14) 34 9 rfl _ rfl _ _ HS.out ?_)
  go_ret
  exact ⟨rfl, HB2.out⟩
set_option maxHeartbeats 1000000 in
set_option maxRecDepth 1000000 in
theorem mall_any (P g n : Nat) (most : Int) (b : List Int) (w : World) (h : MB w P g n most b) :
    Calls Try.prog 9 #[.pointer (some ⟨P, 0, none⟩)] w fun r w' => r = .returned (.string (strOfNums b)) ∧ Below w.heap.size w w' := by
  have HL := mlength_any P g n most b w h
  have HT := mtext_any P g n most b 0 b.length (by omega) w h
  rw [List.drop_zero, List.take_length] at HT
  clear h
  go_enter Try.func9, Try.ntmps9
  go_wp2_with (first | (go_at_call 24; refine HL.mono ?_; rintro r w1 ⟨rfl, rfl⟩) | (go_at_call 23; refine HT.mono ?_; rintro r w1 ⟨rfl, HB⟩))
  go_ret
  exact ⟨rfl, HB⟩
set_option maxHeartbeats 1000000 in
set_option maxRecDepth 1000000 in
theorem mbytes_yes (P g n : Nat) (most : Int) (b : List Int) (a k : Nat) (hk : a + k ≤ b.length) (w : World) (h : MB w P g n most b) :
    Calls Try.prog 19 #[.pointer (some ⟨P, 0, none⟩), .int .i64 (a : Int), .int .i64 (k : Int)] w fun r w' => r = .returned (.tuple #[.string (strOfNums ((b.drop a).take k)), .int .i64 0]) ∧ Below w.heap.size w w' := by
  have hl : b.length ≤ 2048 := by have := h.len; have := h.n8; omega
  have HL := mhas_any P g n most b a k (by omega) w h
  have HT := mtext_any P g n most b a k hk w h
  have he : hasB (b.length : Int) (a : Int) (k : Int) = true := by unfold hasB; exact decide_eq_true ⟨by omega, by omega, by omega⟩
  rw [he] at HL
  clear h he
  go_enter Try.func19, Try.ntmps19
  go_wp2_with (first | (go_at_call 38; refine HL.mono ?_; rintro r w1 ⟨rfl, rfl⟩) | (go_at_call 23; refine HT.mono ?_; rintro r w1 ⟨rfl, HB⟩))
  go_ret2
  exact ⟨rfl, HB⟩
set_option maxHeartbeats 1000000 in
set_option maxRecDepth 1000000 in
theorem mbytes_no (P g n : Nat) (most : Int) (b : List Int) (a k : Int) (ha : a ≤ 9223372036854775807) (hk : hasB b.length a k = false) (w : World) (h : MB w P g n most b) :
    Calls Try.prog 19 #[.pointer (some ⟨P, 0, none⟩), .int .i64 a, .int .i64 k] w fun r w' => r = .returned (.tuple #[.string ⟨#[]⟩, .int .i64 23]) ∧ w' = w := by
  have HL := mhas_any P g n most b a k ha w h
  rw [hk] at HL
  clear h hk
  go_enter Try.func19, Try.ntmps19
  go_wp2_with (go_at_call 38; refine HL.mono ?_; rintro r w1 ⟨rfl, rfl⟩)
  go_ret2
  exact ⟨rfl, rfl⟩
end Go.Proofs.Ytomiganjagjabaa
