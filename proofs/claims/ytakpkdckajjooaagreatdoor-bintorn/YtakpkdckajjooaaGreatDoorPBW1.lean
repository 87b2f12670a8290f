/-
  What the program's small texts are: bytes, kinds, numbers, names, sized texts, sections, places.
-/
import Derived.Test.YtakpkdckajjooaaGreatDoorPQG
import Derived.Test.YtakpkdckajjooaaGreatDoorPQA
import Derived.Laws.Concat
import Derived.Deep.RegionHeld3
set_option maxHeartbeats 2000000
set_option maxRecDepth 1000000
namespace Go.Proofs.YtakpkdckajjooaaGreatDoor
set_option linter.unusedVariables false
open Go.RowKit
def Txt (w : World) (x : List Int) (r : Ending) (w' : World) : Prop := ∃ t, r = .returned (.string t) ∧ nums t = x ∧ Below w.heap.size w w'
theorem Txt.eq {w : World} {x y : List Int} {r : Ending} {w' : World} (h : Txt w x r w') (e : x = y) : Txt w y r w' := e ▸ h
def BB (w : World) (X : Nat) (ns : List Int) : Prop := w.heap[X]? = some (.cells (ns.map (Value.int .u8)).toArray 5 (0, 0))
theorem BB.under {w w' : World} {X : Nat} {ns : List Int} (h : BB w X ns) (b : Below w.heap.size w w') : BB w' X ns := by
  unfold BB at h ⊢
  rw [b.block X (some_lt h), h]
theorem BB.one (w : World) (n : Int) : BB (w.alloc (.cells #[.int .u8 n] 5)) w.heap.size [n] := heap_alloc_new w _
theorem BB.two (w : World) (n k : Int) : BB (w.alloc (.cells #[.int .u8 n, .int .u8 k] 5)) w.heap.size [n, k] := heap_alloc_new w _
theorem BB.conv {w : World} {X : Nat} {ns : List Int} (h : BB w X ns) (n : Nat) (hn : ns.length = n) : (convert 142 9 (.slice (some ⟨X, 0, none⟩) n n)).run Tryz.prog w = .ok (.string (strOfNums ns)) w := by
  refine run_convert_bytes_arg _ 142 5 Tryz.underlying142 Tryz.underlying5 X 0 n n ns hn ?_ 9 Tryz.underlying9
  intro i hi
  unfold BB at h
  rw [World.cell?, h]
  have hi' : i < ns.length := by omega
  simp [List.getElem?_eq_getElem hi', List.getD_eq_getElem?_getD]
theorem bytes_any (w : World) (X n : Nat) (ns : List Int) (h : BB w X ns) (hn : ns.length = n) :
    Calls Tryz.prog 121 #[.slice (some ⟨X, 0, none⟩) n n] w fun r w' => r = .returned (.string (strOfNums ns)) ∧ w' = w := by
  have hc := h.conv n hn
  clear h
  go_enter Tryz.func121, Tryz.ntmps121
  go_wp2
  go_ret
  exact ⟨rfl, rfl⟩
theorem isK_byte {k : Int} (h : isK k = true) : ∀ b ∈ [k], 0 ≤ b ∧ b < 256 := by
  intro b hb
  simp at hb
  subst hb
  rcases isK_or h with h | h <;> omega
theorem kindText_any (k : Int) (h0 : 0 ≤ k) (h1 : k < 256) (w : World) :
    Calls Tryz.prog 123 #[.int .u8 k] w (Txt w [k]) := by
  have HB : Hid (BB (w.alloc (.cells #[.int .u8 k] 5)) w.heap.size [k]) := BB.one w k
  go_enter Tryz.func123, Tryz.ntmps123
  go_wp2_with fail
  refine (bytes_any _ _ 1 _ HB.out rfl).mono ?_
  rintro r w1 ⟨rfl, rfl⟩
  go_wp2
  go_ret
  exact ⟨_, rfl, nums_str (by intro b hb; simp at hb; omega), (Below.refl _ _).alloc (Nat.le_refl _) _⟩
theorem numberText_any (n : Int) (h0 : 0 ≤ n) (h1 : n ≤ 9223372036854775807) (w : World) :
    Calls Tryz.prog 126 #[.int .i64 n] w (Txt w (uB n.toNat)) := by
  have HU : Hid (∀ w, Calls Tryz.prog 176 #[.int .u64 n] w fun e w' => e = .returned (.string (strOfNums (uB n.toNat))) ∧ Below w.heap.size w w') := fun w => by
    have := u_any n.toNat (by omega) w
    rw [Int.toNat_of_nonneg h0] at this
    exact this
  go_enter Tryz.func126, Tryz.ntmps126
  go_wp2_with fail
  refine (HU.out _).mono ?_
  rintro e w1 ⟨rfl, b⟩
  go_wp2
  go_ret
  exact ⟨_, rfl, nums_u _, b⟩
theorem nameText_any (s : ByteArray) (w : World) (hA : Amb w) (hc : chkName (nums s) = 0) :
    Calls Tryz.prog 125 #[.string s] w (Txt w (tName (nums s))) := by
  have HA : Hid (Amb w) := hA
  have HC : Hid (chkName (nums s) = 0) := hc
  clear hA hc
  go_enter Tryz.func125, Tryz.ntmps125
  go_wp2_with fail
  refine (name_any s _ HA.out).mono ?_
  rintro r w1 ⟨b, t, rfl, ht⟩
  have HT : Hid (nums t = tName (nums s)) := ht HC.out
  clear ht
  generalize chkName (nums s) = e
  go_wp2
  go_ret
  exact ⟨_, rfl, HT.out, b⟩
theorem uB_len10 (n : Nat) (h : n ≤ 18446744073709551615) : (uB n).length ≤ 10 := uB_len 9 n (by omega)
theorem size_of {t : ByteArray} {x : List Int} (h : nums t = x) : t.size = x.length := by rw [← nums_length, h]
theorem sized_any (s : ByteArray) (hs : s.size ≤ 100000000) (w : World) :
    Calls Tryz.prog 136 #[.string s] w (Txt w (tName (nums s))) := by
  have hu := uB_len10 s.size (by omega)
  have HN : Hid (Calls Tryz.prog 126 #[.int .i64 (s.size : Int)] w (Txt w (uB s.size))) := numberText_any (s.size : Int) (by omega) (by omega) w
  go_enter Tryz.func136, Tryz.ntmps136
  go_wp2_with fail
  refine HN.out.mono ?_
  rintro r w1 ⟨t, rfl, ht, b⟩
  have hz := size_of ht
  have HT : Hid (nums t = uB s.size) := ht
  clear ht
  go_wp2
  go_ret
  refine ⟨_, rfl, ?_, b⟩
  rw [nums_append, HT.out, tName, nums_length]
theorem section_any (n : Int) (h0 : 0 ≤ n) (h1 : n < 256) (s : ByteArray) (hs : s.size ≤ 100000000) (w : World) :
    Calls Tryz.prog 119 #[.int .u8 n, .string s] w (Txt w (n :: tName (nums s))) := by
  have HB : Hid (BB (w.alloc (.cells #[.int .u8 n] 5)) w.heap.size [n]) := BB.one w n
  have HL : Hid ((tName (nums s)).length ≤ 10 + s.size) := by
    have hu := uB_len10 s.size (by omega)
    unfold Hid tName
    rw [List.length_append, nums_length]
    omega
  have z1 : (strOfNums [n]).size = 1 := strOfNums_size [n]
  go_enter Tryz.func119, Tryz.ntmps119
  go_wp2_with fail
  refine (bytes_any _ _ 1 _ HB.out rfl).mono ?_
  rintro r w1 ⟨rfl, rfl⟩
  go_wp2_with fail
  refine (sized_any s hs _).mono ?_
  rintro r w2 ⟨t, rfl, ht, b⟩
  have hz := size_of ht
  have hl := HL.out
  have HT : Hid (nums t = tName (nums s)) := ht
  have HBB : Hid (Below w.heap.size w w2) := ((Below.refl _ _).alloc (Nat.le_refl _) _).trans (b.mono (by simp))
  clear ht b
  rw [← hz] at hl
  go_wp2
  go_ret
  refine ⟨_, rfl, ?_, HBB.out⟩
  rw [nums_append, HT.out, nums_str (by intro b hb; simp at hb; omega)]
  rfl
theorem placeText_any (a : Int) (h0 : -9223372036854775808 ≤ a) (h1 : a ≤ 9223372036854775807) (w : World) :
    Calls Tryz.prog 133 #[.int .i64 a] w (Txt w (tPlace a)) := by
  have HB : Hid (BB (w.alloc (.cells #[.int .u8 0, .int .u8 65] 5)) w.heap.size [0, 65]) := BB.two w 0 65
  have hl := sB_len64 a h0 h1
  rw [← strOfNums_size] at hl
  have z1 : (strOfNums [0, 65]).size = 2 := strOfNums_size [0, 65]
  have z2 : (strOfNums [11]).size = 1 := strOfNums_size [11]
  go_enter Tryz.func133, Tryz.ntmps133
  go_wp2_with fail
  refine (bytes_any _ _ 2 _ HB.out rfl).mono ?_
  rintro r w1 ⟨rfl, rfl⟩
  go_wp2_with fail
  refine (s_any a h0 h1 _).mono ?_
  rintro r w2 ⟨rfl, b⟩
  have HB2 : Hid (BB (w2.alloc (.cells #[.int .u8 11] 5)) w2.heap.size [11]) := BB.one w2 11
  have HBB : Hid (Below w.heap.size w w2) := ((Below.refl _ _).alloc (Nat.le_refl _) _).trans (b.mono (by simp))
  clear b HB
  go_wp2_with fail
  refine (bytes_any _ _ 1 _ HB2.out rfl).mono ?_
  rintro r w3 ⟨rfl, rfl⟩
  go_wp2
  go_ret
  refine ⟨_, rfl, ?_, HBB.out.alloc HBB.out.size _⟩
  rw [nums_append, nums_append, nums_str (xs := [0, 65]) (by intro b hb; simp at hb; omega), nums_str (xs := [11]) (by intro b hb; simp at hb; omega), nums_str (sB_byte a)]
  rfl
end Go.Proofs.YtakpkdckajjooaaGreatDoor
