/-
  What the small methods of the document's own cursor do.
  What the methods of the document's own cursor do.
  What the document's own cursor reads: num and signed.
-/
import Derived.Test.YtfmmefmpjejioaaInsR5
import Derived.Test.YtfmmefmpjejioaaGRef
namespace Go.Proofs.Ytfmmefmpjejioaa
open Go.RowKit

/-- The cursor at P: what is left, how long the whole is, and the first error. -/
def CS (w : World) (P : Nat) (s : ByteArray) (n e : Int) : Prop := w.heap[P]? = some (.cells #[.string s, .int .i64 n, .int .i64 e] 49 (0, 0))
section
variable {w w' : World} {P : Nat} {s : ByteArray} {n e : Int}
theorem CS.lt (h : CS w P s n e) : P < w.heap.size := by
  unfold CS at h
  exact (Array.getElem?_eq_some_iff.1 h).1
theorem CS.cell (h : CS w P s n e) : w.cell? ⟨P, 0, none⟩ = some (.string s) ∧ w.cell? ⟨P, 1, none⟩ = some (.int .i64 n) ∧ w.cell? ⟨P, 2, none⟩ = some (.int .i64 e) := by
  unfold CS at h
  simp [World.cell?, h]
theorem CS.frozen (h : CS w P s n e) (i : Nat) : w.frozen? ⟨P, i, none⟩ = false := by
  unfold CS at h
  simp [World.frozen?, h]
theorem CS.set0 (h : CS w P s n e) (t : ByteArray) : CS (w.setCell ⟨P, 0, none⟩ (.string t)) P t n e := by
  unfold CS at h ⊢
  simp [World.setCell, Array.getElem?_modify, h]
theorem CS.set2 (h : CS w P s n e) (d : Int) : CS (w.setCell ⟨P, 2, none⟩ (.int .i64 d)) P s n d := by
  unfold CS at h ⊢
  simp [World.setCell, Array.getElem?_modify, h]
theorem CS.below (h : CS w P s n e) (hb : Below w.heap.size w w') : CS w' P s n e := by
  unfold CS at h ⊢
  rw [hb.block P (CS.lt h), h]
end
set_option maxHeartbeats 1000000 in
set_option maxRecDepth 1000000 in
theorem say_any (P : Nat) (s : ByteArray) (n a e : Int) (is : Bool) (w : World) (h : CS w P s n a) :
    Calls Try.prog 16 #[.pointer (some ⟨P, 0, none⟩), .bool is, .int .i64 e] w fun r w' => r = .returned (.tuple #[]) ∧ CS w' P s n (if is then fstE a e else a) ∧ Chg P w w' := by
  obtain ⟨c0, c1, c2⟩ := h.cell
  have hf := h.frozen 2
  have HR : Hid (CS w P s n a) := h
  clear h
  cases is
  · go_enter Try.func16, Try.ntmps16
    go_wp2
    go_end0
    exact ⟨rfl, HR.out, Chg.refl _ _⟩
  · by_cases h0 : a = 0
    · subst h0
      go_enter Try.func16, Try.ntmps16
      go_wp2
      go_end0
      exact ⟨rfl, HR.out.set2 e, Chg.set _ _ _ _⟩
    · have hb : (a == 0) = false := by rw [beq_eq_false_iff_ne]; exact h0
      have e1 : fstE a e = a := by unfold fstE; rw [if_neg h0]
      rw [e1]
      go_enter Try.func16, Try.ntmps16
      go_wp2
      go_end0
      exact ⟨rfl, by simpa using HR.out, Chg.refl _ _⟩

end Go.Proofs.Ytfmmefmpjejioaa
namespace Go.Proofs.Ytfmmefmpjejioaa
open Go.RowKit

theorem fstE_bne {a e : Int} (h : e ≠ 0) : (fstE a e == 0) = false := by
  unfold fstE
  split
  · rw [beq_eq_false_iff_ne]; exact h
  · rw [beq_eq_false_iff_ne]; assumption
set_option maxHeartbeats 1000000 in
set_option maxRecDepth 1000000 in
theorem skip_ok (P : Nat) (s : ByteArray) (n : Int) (k : Nat) (w : World) (h : CS w P s n 0) (_hk : k ≤ s.size) (_hm : s.size ≤ maxLen) :
    Calls Try.prog 17 #[.pointer (some ⟨P, 0, none⟩), .int .i64 k, .int .i64 0] w fun r w' => r = .returned (.bool true) ∧ CS w' P (s.extract k s.size) n 0 ∧ Chg P w w' := by
  have HR : Hid (CS w P s n 0) := h
  clear h
  unfold maxLen at _hm
  go_enter Try.func17, Try.ntmps17
  go_wp2_with fail
  refine (say_any P s n 0 0 false _ HR.out).mono ?_
  rintro e w1 ⟨rfl, r1, k1⟩
  rw [if_neg (by decide)] at r1
  obtain ⟨d0, d1, d2⟩ := r1.cell
  have hf := r1.frozen 0
  have HR1 : Hid (CS w1 P s n 0) := r1
  clear r1
  go_wp2
  go_ret
  exact ⟨rfl, HR1.out.set0 _, k1.trans (Chg.set _ _ _ _)⟩
set_option maxHeartbeats 1000000 in
set_option maxRecDepth 1000000 in
theorem skip_err (P : Nat) (s : ByteArray) (n a e k : Int) (w : World) (h : CS w P s n a) (he : e ≠ 0) :
    Calls Try.prog 17 #[.pointer (some ⟨P, 0, none⟩), .int .i64 k, .int .i64 e] w fun r w' => r = .returned (.bool false) ∧ CS w' P s n (fstE a e) ∧ Chg P w w' := by
  have HR : Hid (CS w P s n a) := h
  have hne := fstE_bne (a := a) he
  have hb : (e == 0) = false := by rw [beq_eq_false_iff_ne]; exact he
  have HS : Hid (∀ w, CS w P s n a → Calls Try.prog 16 #[.pointer (some ⟨P, 0, none⟩), .bool (e != 0), .int .i64 e] w fun r w' => r = .returned (.tuple #[]) ∧ CS w' P s n (fstE a e) ∧ Chg P w w') := fun w h => by
    have := say_any P s n a e true w h
    rw [if_pos rfl] at this
    rw [show (e != 0) = true by rw [bne, hb]; rfl]
    exact this
  generalize fstE a e = b at HS hne ⊢
  clear h he
  go_enter Try.func17, Try.ntmps17
  go_wp2_with fail
  refine (HS.out _ HR.out).mono ?_
  rintro e1 w1 ⟨rfl, r1, k1⟩
  obtain ⟨d0, d1, d2⟩ := r1.cell
  go_wp2
  go_ret
  exact ⟨rfl, r1, k1⟩
set_option maxHeartbeats 1000000 in
set_option maxRecDepth 1000000 in
theorem at_any (P : Nat) (s : ByteArray) (n a : Int) (w : World) (h : CS w P s n a) (_hm : s.size ≤ 9223372036854775807) (_h1 : 0 ≤ n) (_h2 : n ≤ 9223372036854775807) :
    Calls Try.prog 18 #[.pointer (some ⟨P, 0, none⟩)] w fun r w' => r = .returned (.int .i64 (n - s.size)) ∧ w' = w.drew := by
  obtain ⟨c0, c1, c2⟩ := h.cell
  clear h
  go_enter Try.func18, Try.ntmps18
  go_wp2_with fail
  go_region
  all_goals (go_wp2; go_ret; exact ⟨rfl, rfl⟩)

end Go.Proofs.Ytfmmefmpjejioaa
namespace Go.Proofs.Ytfmmefmpjejioaa
open Go.RowKit

set_option maxHeartbeats 1000000 in
set_option maxRecDepth 1000000 in
theorem skip_was (P : Nat) (s : ByteArray) (n a e k : Int) (w : World) (h : CS w P s n a) (ha : a ≠ 0) :
    Calls Try.prog 17 #[.pointer (some ⟨P, 0, none⟩), .int .i64 k, .int .i64 e] w fun r w' => r = .returned (.bool false) ∧ CS w' P s n a ∧ Chg P w w' := by
  have HR : Hid (CS w P s n a) := h
  have hne : (a == 0) = false := by rw [beq_eq_false_iff_ne]; exact ha
  have HS : Hid (∀ w, CS w P s n a → Calls Try.prog 16 #[.pointer (some ⟨P, 0, none⟩), .bool (e != 0), .int .i64 e] w fun r w' => r = .returned (.tuple #[]) ∧ CS w' P s n a ∧ Chg P w w') := fun w h => by
    have := say_any P s n a e (e != 0) w h
    have e1 : (if (e != 0) = true then fstE a e else a) = a := by
      split
      · unfold fstE; rw [if_neg ha]
      · rfl
    rwa [e1] at this
  clear h ha
  go_enter Try.func17, Try.ntmps17
  go_wp2_with fail
  refine (HS.out _ HR.out).mono ?_
  rintro e1 w1 ⟨rfl, r1, k1⟩
  obtain ⟨d0, d1, d2⟩ := r1.cell
  go_wp2
  go_ret
  exact ⟨rfl, r1, k1⟩
set_option maxHeartbeats 1000000 in
set_option maxRecDepth 1000000 in
theorem num_ok (P : Nat) (s : ByteArray) (n : Int) (n0 : Int) (_n0 : 0 ≤ n0) (_n1 : n0 < 4294967296) (w : World) (k : Nat) (hk : k ≤ s.size) (hm : s.size ≤ maxLen) (HRD : Hid (∀ w, Calls Try.prog 39 #[.string s, .int .i64 32] w fun e' w' => e' = .returned (.tuple #[.int .u64 n0, .int .i64 (k : Int), .int .i64 0]) ∧ Below w.heap.size w w')) (h : CS w P s n 0) :
    Calls Try.prog 21 #[.pointer (some ⟨P, 0, none⟩)] w fun r w' => r = .returned (.int .i64 n0) ∧ CS w' P (s.extract k s.size) n 0 ∧ Chg P w w' := by
  obtain ⟨c0, c1, c2⟩ := h.cell
  have HR : Hid (CS w P s n 0) := h
  clear h
  go_enter Try.func21, Try.ntmps21
  go_wp2_with fail
  refine (HRD.out _).mono ?_
  rintro e1 w1 ⟨rfl, b1⟩
  clear c0 c1 c2
  go_wp2_with fail
  refine (skip_ok P s n k _ (HR.out.below b1) hk hm).mono ?_
  rintro e1 w2 ⟨rfl, r2, k2⟩
  go_wp2
  go_ret
  exact ⟨rfl, r2, (Chg.of_below b1).trans k2⟩
set_option maxHeartbeats 1000000 in
set_option maxRecDepth 1000000 in
theorem num_err (P : Nat) (s : ByteArray) (n : Int) (n0 : Int) (w : World) (a k e : Int) (HRD : Hid (∀ w, Calls Try.prog 39 #[.string s, .int .i64 32] w fun e' w' => e' = .returned (.tuple #[.int .u64 n0, .int .i64 k, .int .i64 e]) ∧ Below w.heap.size w w')) (h : CS w P s n a) (he : e ≠ 0) :
    Calls Try.prog 21 #[.pointer (some ⟨P, 0, none⟩)] w fun r w' => r = .returned (.int .i64 0) ∧ CS w' P s n (fstE a e) ∧ Chg P w w' := by
  obtain ⟨c0, c1, c2⟩ := h.cell
  have HR : Hid (CS w P s n a) := h
  clear h
  go_enter Try.func21, Try.ntmps21
  go_wp2_with fail
  refine (HRD.out _).mono ?_
  rintro e1 w1 ⟨rfl, b1⟩
  clear c0 c1 c2
  go_wp2_with fail
  refine (skip_err P s n a e k _ (HR.out.below b1) he).mono ?_
  rintro e1 w2 ⟨rfl, r2, k2⟩
  go_wp2
  go_ret
  exact ⟨rfl, r2, (Chg.of_below b1).trans k2⟩
set_option maxHeartbeats 1000000 in
set_option maxRecDepth 1000000 in
theorem num_was (P : Nat) (s : ByteArray) (n : Int) (n0 : Int) (w : World) (a k e : Int) (HRD : Hid (∀ w, Calls Try.prog 39 #[.string s, .int .i64 32] w fun e' w' => e' = .returned (.tuple #[.int .u64 n0, .int .i64 k, .int .i64 e]) ∧ Below w.heap.size w w')) (h : CS w P s n a) (ha : a ≠ 0) :
    Calls Try.prog 21 #[.pointer (some ⟨P, 0, none⟩)] w fun r w' => r = .returned (.int .i64 0) ∧ CS w' P s n a ∧ Chg P w w' := by
  obtain ⟨c0, c1, c2⟩ := h.cell
  have HR : Hid (CS w P s n a) := h
  clear h
  go_enter Try.func21, Try.ntmps21
  go_wp2_with fail
  refine (HRD.out _).mono ?_
  rintro e1 w1 ⟨rfl, b1⟩
  clear c0 c1 c2
  go_wp2_with fail
  refine (skip_was P s n a e k _ (HR.out.below b1) ha).mono ?_
  rintro e1 w2 ⟨rfl, r2, k2⟩
  go_wp2
  go_ret
  exact ⟨rfl, r2, (Chg.of_below b1).trans k2⟩
set_option maxHeartbeats 1000000 in
set_option maxRecDepth 1000000 in
theorem signed_ok (P : Nat) (s : ByteArray) (n : Int) (n0 : Int) (B : Int) (w : World) (k : Nat) (hk : k ≤ s.size) (hm : s.size ≤ maxLen) (HRD : Hid (∀ w, Calls Try.prog 38 #[.string s, .int .i64 B] w fun e' w' => e' = .returned (.tuple #[.int .i64 n0, .int .i64 (k : Int), .int .i64 0]) ∧ Below w.heap.size w w')) (h : CS w P s n 0) :
    Calls Try.prog 19 #[.pointer (some ⟨P, 0, none⟩), .int .i64 B] w fun r w' => r = .returned (.int .i64 n0) ∧ CS w' P (s.extract k s.size) n 0 ∧ Chg P w w' := by
  obtain ⟨c0, c1, c2⟩ := h.cell
  have HR : Hid (CS w P s n 0) := h
  clear h
  go_enter Try.func19, Try.ntmps19
  go_wp2_with fail
  refine (HRD.out _).mono ?_
  rintro e1 w1 ⟨rfl, b1⟩
  clear c0 c1 c2
  go_wp2_with fail
  refine (skip_ok P s n k _ (HR.out.below b1) hk hm).mono ?_
  rintro e1 w2 ⟨rfl, r2, k2⟩
  go_wp2
  go_ret
  exact ⟨rfl, r2, (Chg.of_below b1).trans k2⟩
set_option maxHeartbeats 1000000 in
set_option maxRecDepth 1000000 in
theorem signed_err (P : Nat) (s : ByteArray) (n : Int) (n0 : Int) (B : Int) (w : World) (a k e : Int) (HRD : Hid (∀ w, Calls Try.prog 38 #[.string s, .int .i64 B] w fun e' w' => e' = .returned (.tuple #[.int .i64 n0, .int .i64 k, .int .i64 e]) ∧ Below w.heap.size w w')) (h : CS w P s n a) (he : e ≠ 0) :
    Calls Try.prog 19 #[.pointer (some ⟨P, 0, none⟩), .int .i64 B] w fun r w' => r = .returned (.int .i64 0) ∧ CS w' P s n (fstE a e) ∧ Chg P w w' := by
  obtain ⟨c0, c1, c2⟩ := h.cell
  have HR : Hid (CS w P s n a) := h
  clear h
  go_enter Try.func19, Try.ntmps19
  go_wp2_with fail
  refine (HRD.out _).mono ?_
  rintro e1 w1 ⟨rfl, b1⟩
  clear c0 c1 c2
  go_wp2_with fail
  refine (skip_err P s n a e k _ (HR.out.below b1) he).mono ?_
  rintro e1 w2 ⟨rfl, r2, k2⟩
  go_wp2
  go_ret
  exact ⟨rfl, r2, (Chg.of_below b1).trans k2⟩
set_option maxHeartbeats 1000000 in
set_option maxRecDepth 1000000 in
theorem signed_was (P : Nat) (s : ByteArray) (n : Int) (n0 : Int) (B : Int) (w : World) (a k e : Int) (HRD : Hid (∀ w, Calls Try.prog 38 #[.string s, .int .i64 B] w fun e' w' => e' = .returned (.tuple #[.int .i64 n0, .int .i64 k, .int .i64 e]) ∧ Below w.heap.size w w')) (h : CS w P s n a) (ha : a ≠ 0) :
    Calls Try.prog 19 #[.pointer (some ⟨P, 0, none⟩), .int .i64 B] w fun r w' => r = .returned (.int .i64 0) ∧ CS w' P s n a ∧ Chg P w w' := by
  obtain ⟨c0, c1, c2⟩ := h.cell
  have HR : Hid (CS w P s n a) := h
  clear h
  go_enter Try.func19, Try.ntmps19
  go_wp2_with fail
  refine (HRD.out _).mono ?_
  rintro e1 w1 ⟨rfl, b1⟩
  clear c0 c1 c2
  go_wp2_with fail
  refine (skip_was P s n a e k _ (HR.out.below b1) ha).mono ?_
  rintro e1 w2 ⟨rfl, r2, k2⟩
  go_wp2
  go_ret
  exact ⟨rfl, r2, (Chg.of_below b1).trans k2⟩
set_option maxHeartbeats 1000000 in
set_option maxRecDepth 1000000 in
theorem over_any (s : ByteArray) (_hs : s.size ≤ 9223372036854775807) (w : World) :
    Calls Try.prog 14 #[.string s] w fun r w' => r = .returned (.pointer (some ⟨w.heap.size, 0, none⟩)) ∧ CS w' w.heap.size s s.size 0 ∧ Below w.heap.size w w' := by
  go_enter Try.func14, Try.ntmps14
  go_wp2_with fail
  go_ret
  exact ⟨rfl, new_block _ _, (Below.refl _ _).alloc (Nat.le_refl _) _⟩

end Go.Proofs.Ytfmmefmpjejioaa
