/-
 What an instance has at first fits.
 Whether two images are the same.
 The law of what an instance has at first, where there is none.
-/
import Derived.Test.YtoikoijpkchamaaGreatDoorCIC
import Derived.Test.YtoikoijpkchamaaGreatDoorCGOne
import Derived.Test.YtoikoijpkchamaaGreatDoorCQY
set_option maxHeartbeats 4000000
set_option maxRecDepth 1000000
namespace Go.Proofs.YtoikoijpkchamaaGreatDoor
open Go.RowKit
set_option linter.unusedVariables false
theorem puts_len : ∀ (L : List DatD) (b : List Int), (putsV L b).1 = 0 → (putsV L b).2.length = b.length
 | [], b, _ => rfl
 | d :: L, b, h => by
  unfold putsV at h ⊢
  split at h
  ·rename_i hh
   rw [if_pos hh]
   rw [puts_len L _ h]
   apply length_splice
   unfold hasB at hh
   have := of_decide_eq_true hh
   rw [nums_length]
   omega
  ·exact absurd h (by decide)
end Go.Proofs.YtoikoijpkchamaaGreatDoor
namespace Go.Proofs.YtoikoijpkchamaaGreatDoor
open Go.RowKit
set_option linter.unusedVariables false
theorem bytes_inj5 {s t : ByteArray} (h : s.toList = t.toList) : s = t := by
 rw [ByteArray.toList_eq, ByteArray.toList_eq] at h
 cases s; cases t
 simpa using h
theorem sameImage_any (a b : ByteArray) (t1 t2 g1 g2 : NumD) (w : World) (ht1 : t1.ok .i64 w) (ht2 : t2.ok .i64 w) (hg1 : g1.ok .i64 w) (hg2 : g2.ok .i64 w) :
  Calls Tryz.prog 40 #[.agg #[.string a, .slice t1.o t1.n t1.cap, .slice g1.o g1.n g1.cap], .agg #[.string b, .slice t2.o t2.n t2.cap, .slice g2.o g2.n g2.cap]] w fun r w' => r = .returned (.bool (decide (a = b) && (decide (t1.xs = t2.xs) && decide (g1.xs = g2.xs)))) ∧ Below w.heap.size w w' := by
 have hb : Below w.heap.size w ((w.alloc (.cells #[.string a, .slice t1.o t1.n t1.cap, .slice g1.o g1.n g1.cap] 80)).alloc (.cells #[.string b, .slice t2.o t2.n t2.cap, .slice g2.o g2.n g2.cap] 80)) := ((Below.refl _ _).alloc (Nat.le_refl _) _).alloc (by simp) _
 have HB : Hid (type_of% hb) := hb
 have HT : Hid (Calls Tryz.prog 67 #[.slice t1.o t1.n t1.cap, .slice t2.o t2.n t2.cap] ((w.alloc (.cells #[.string a, .slice t1.o t1.n t1.cap, .slice g1.o g1.n g1.cap] 80)).alloc (.cells #[.string b, .slice t2.o t2.n t2.cap, .slice g2.o g2.n g2.cap] 80)) fun r w' => r = .returned (.bool (decide (t1.xs = t2.xs))) ∧ w' = ((w.alloc (.cells #[.string a, .slice t1.o t1.n t1.cap, .slice g1.o g1.n g1.cap] 80)).alloc (.cells #[.string b, .slice t2.o t2.n t2.cap, .slice g2.o g2.n g2.cap] 80))) := eqB_int _ t1 t2 (ht1.below hb) (ht2.below hb)
 have HG : Hid (Calls Tryz.prog 68 #[.slice g1.o g1.n g1.cap, .slice g2.o g2.n g2.cap] ((w.alloc (.cells #[.string a, .slice t1.o t1.n t1.cap, .slice g1.o g1.n g1.cap] 80)).alloc (.cells #[.string b, .slice t2.o t2.n t2.cap, .slice g2.o g2.n g2.cap] 80)) fun r w' => r = .returned (.bool (decide (g1.xs = g2.xs))) ∧ w' = ((w.alloc (.cells #[.string a, .slice t1.o t1.n t1.cap, .slice g1.o g1.n g1.cap] 80)).alloc (.cells #[.string b, .slice t2.o t2.n t2.cap, .slice g2.o g2.n g2.cap] 80))) := eqB_i64 _ g1 g2 (hg1.below hb) (hg2.below hb)
 have hn1 : ((w.alloc (.cells #[.string a, .slice t1.o t1.n t1.cap, .slice g1.o g1.n g1.cap] 80)).alloc (.cells #[.string b, .slice t2.o t2.n t2.cap, .slice g2.o g2.n g2.cap] 80)).heap[w.heap.size]? = some (.cells #[.string a, .slice t1.o t1.n t1.cap, .slice g1.o g1.n g1.cap] 80 (0, 0)) := (Below.heap_alloc _ _ _ (by simp)).trans (heap_alloc_new w _)
 have hn2 : ((w.alloc (.cells #[.string a, .slice t1.o t1.n t1.cap, .slice g1.o g1.n g1.cap] 80)).alloc (.cells #[.string b, .slice t2.o t2.n t2.cap, .slice g2.o g2.n g2.cap] 80)).heap[w.heap.size + 1]? = some (.cells #[.string b, .slice t2.o t2.n t2.cap, .slice g2.o g2.n g2.cap] 80 (0, 0)) := by
  have h := heap_alloc_new (w.alloc (.cells #[.string a, .slice t1.o t1.n t1.cap, .slice g1.o g1.n g1.cap] 80)) (.cells #[.string b, .slice t2.o t2.n t2.cap, .slice g2.o g2.n g2.cap] 80)
  rw [show (w.alloc (.cells #[.string a, .slice t1.o t1.n t1.cap, .slice g1.o g1.n g1.cap] 80)).heap.size = w.heap.size + 1 by simp] at h
  exact h
 have a0 := cell_at hn1 0 rfl
 have a1 := cell_at hn1 1 rfl
 have a2 := cell_at hn1 2 rfl
 have b0 := cell_at hn2 0 rfl
 have b1 := cell_at hn2 1 rfl
 have b2 := cell_at hn2 2 rfl
 clear hb hn1 hn2 ht1 ht2 hg1 hg2
 generalize decide (t1.xs = t2.xs) = e1 at *
 generalize decide (g1.xs = g2.xs) = e2 at *
 generalize t1.o = o1 at *
 generalize t1.n = n1 at *
 generalize t1.cap = c1 at *
 generalize t2.o = o2 at *
 generalize t2.n = n2 at *
 generalize t2.cap = c2 at *
 generalize g1.o = o3 at *
 generalize g1.n = n3 at *
 generalize g1.cap = c3 at *
 generalize g2.o = o4 at *
 generalize g2.n = n4 at *
 generalize g2.cap = c4 at *
 by_cases hab : a = b
 ·rw [decide_eq_true hab]
  subst hab
  cases e1 with
  | false =>
   go_enter Tryz.func40, Tryz.ntmps40
   go_wp2_with (go_at_call 67; refine HT.out.mono ?_; rintro r w1 ⟨rfl, rfl⟩)
   go_ret
   exact ⟨rfl, HB.out⟩
  | true =>
   go_enter Tryz.func40, Tryz.ntmps40
   go_wp2_with (first | (go_at_call 67; refine HT.out.mono ?_; rintro r w1 ⟨rfl, rfl⟩) | (go_at_call 68; refine HG.out.mono ?_; rintro r w1 ⟨rfl, rfl⟩))
   go_ret
   exact ⟨by simp, HB.out⟩
 ·rw [decide_eq_false hab]
  have hab1 : ¬ a.toList = b.toList := fun e => hab (bytes_inj5 e)
  have hab2 : (a.toList == b.toList) = false := by rw [beq_eq_false_iff_ne]; exact hab1
  have hab3 : decide (a.toList = b.toList) = false := decide_eq_false hab1
  clear hab
  clear a1 a2 b1 b2
  go_enter Tryz.func40, Tryz.ntmps40
  go_wp2
  go_ret
  exact ⟨rfl, HB.out⟩
end Go.Proofs.YtoikoijpkchamaaGreatDoor
namespace Go.Proofs.YtoikoijpkchamaaGreatDoor
open Go.RowKit
set_option linter.unusedVariables false
theorem nil_ok (w : World) : NumD.ok .i64 w ⟨none, 0, 0, []⟩ := ⟨Nat.le_refl _, Nat.zero_le _, rfl, fun _ => rfl, fun x hx => (by cases hx), Or.inl rfl⟩
end Go.Proofs.YtoikoijpkchamaaGreatDoor
