/-
  What the reader's own small methods do.
-/
import Derived.Test.YtdbhdgkbkhjikaaDoorIns3
import Derived.Test.YtdbhdgkbkhjikaaDoorReads
import Derived.Test.YtdbhdgkbkhjikaaDoorStrs
import Derived.Test.YtdbhdgkbkhjikaaDoorRes
namespace Go.Proofs.YtdbhdgkbkhjikaaDoor
open Go.RowKit

/-- Of what was there only block P may have turned. -/
structure Chg (P : Nat) (w w' : World) : Prop where
  os : w'.os = w.os
  tape : w'.tape = w.tape
  output : w'.output = w.output
  size : w.heap.size ≤ w'.heap.size
  block : ∀ k, k < w.heap.size → k ≠ P → w'.heap[k]? = w.heap[k]?
theorem Chg.refl (P : Nat) (w : World) : Chg P w w := ⟨rfl, rfl, rfl, Nat.le_refl _, fun _ _ _ => rfl⟩
theorem Chg.trans {P : Nat} {a b c : World} (h : Chg P a b) (k : Chg P b c) : Chg P a c :=
  ⟨k.os.trans h.os, k.tape.trans h.tape, k.output.trans h.output, Nat.le_trans h.size k.size, fun i hi hp => (k.block i (Nat.lt_of_lt_of_le hi h.size) hp).trans (h.block i hi hp)⟩
theorem Chg.set (P i : Nat) (w : World) (v : Value) : Chg P w (w.setCell ⟨P, i, none⟩ v) :=
  ⟨rfl, rfl, rfl, by simp, fun k _ hp => Below.heap_setCell w ⟨P, i, none⟩ v k hp⟩
theorem Chg.of_below {P : Nat} {w w' : World} (h : Below w.heap.size w w') : Chg P w w' := ⟨h.os, h.tape, h.output, h.size, fun k hk _ => h.block k hk⟩
theorem Chg.below {P B : Nat} {w w' : World} (h : Chg P w w') (hP : B ≤ P) (hB : B ≤ w.heap.size) : Below B w w' := ⟨h.os, h.tape, h.output, h.size, fun k hk => h.block k (by omega) (by omega)⟩
theorem Chg.cell {P : Nat} {w w' : World} (h : Chg P w w') (a : Addr) (h1 : a.block < w.heap.size) (h2 : a.block ≠ P) : w'.cell? a = w.cell? a := World.cell?_of_block (w := w) (h.block a.block h1 h2)
theorem Chg.frozen {P : Nat} {w w' : World} (h : Chg P w w') (a : Addr) (h1 : a.block < w.heap.size) (h2 : a.block ≠ P) : w'.frozen? a = w.frozen? a := World.frozen?_of_block (w := w) (h.block a.block h1 h2)
/-- The reader at P: what is left, and the first error. -/
def RS (w : World) (P : Nat) (s : ByteArray) (e : Int) : Prop := w.heap[P]? = some (.cells #[.string s, .int .i64 e] 65 (0, 0))
theorem RS.lt {w : World} {P : Nat} {s : ByteArray} {e : Int} (h : RS w P s e) : P < w.heap.size := by
  unfold RS at h
  exact (Array.getElem?_eq_some_iff.1 h).1
theorem RS.c0 {w : World} {P : Nat} {s : ByteArray} {e : Int} (h : RS w P s e) : w.cell? ⟨P, 0, none⟩ = some (.string s) := by
  unfold RS at h
  simp [World.cell?, h]
theorem RS.c1 {w : World} {P : Nat} {s : ByteArray} {e : Int} (h : RS w P s e) : w.cell? ⟨P, 1, none⟩ = some (.int .i64 e) := by
  unfold RS at h
  simp [World.cell?, h]
theorem RS.f0 {w : World} {P : Nat} {s : ByteArray} {e : Int} (h : RS w P s e) (i : Nat) : w.frozen? ⟨P, i, none⟩ = false := by
  unfold RS at h
  simp [World.frozen?, h]
theorem RS.set0 {w : World} {P : Nat} {s : ByteArray} {e : Int} (h : RS w P s e) (t : ByteArray) : RS (w.setCell ⟨P, 0, none⟩ (.string t)) P t e := by
  unfold RS at h ⊢
  simp [World.setCell, Array.getElem?_modify, h]
theorem RS.set1 {w : World} {P : Nat} {s : ByteArray} {e : Int} (h : RS w P s e) (d : Int) : RS (w.setCell ⟨P, 1, none⟩ (.int .i64 d)) P s d := by
  unfold RS at h ⊢
  simp [World.setCell, Array.getElem?_modify, h]
theorem RS.chg {w w' : World} {P : Nat} {s : ByteArray} {e : Int} (h : RS w P s e) (hb : Below w.heap.size w w') : RS w' P s e := by
  unfold RS at h ⊢
  rw [hb.block P (RS.lt h), h]
/-- The first of two errors. -/
def fstE (a b : Int) : Int := if a = 0 then b else a
set_option maxHeartbeats 1000000 in
set_option maxRecDepth 1000000 in
theorem fail_any (P : Nat) (s : ByteArray) (a e : Int) (w : World) (h : RS w P s a) :
    Calls Tryd.prog 60 #[.pointer (some ⟨P, 0, none⟩), .int .i64 e] w fun r w' => r = .returned (.tuple #[]) ∧ RS w' P s (fstE a e) ∧ Chg P w w' := by
  have hc := h.c1
  have hf := h.f0 1
  have HR : Hid (RS w P s a) := h
  clear h
  by_cases h0 : a = 0
  · subst h0
    go_enter Tryd.func60, Tryd.ntmps60
    go_wp2
    go_end0
    exact ⟨rfl, HR.out.set1 e, Chg.set _ _ _ _⟩
  · have hb : (a == 0) = false := by rw [beq_eq_false_iff_ne]; exact h0
    have e1 : fstE a e = a := by unfold fstE; rw [if_neg h0]
    rw [e1]
    go_enter Tryd.func60, Tryd.ntmps60
    go_wp2
    go_end0
    exact ⟨rfl, HR.out, Chg.refl _ _⟩
set_option maxHeartbeats 1000000 in
set_option maxRecDepth 1000000 in
theorem next_nil (P : Nat) (s : ByteArray) (a : Int) (w : World) (h : RS w P s a) (_hs : s.size = 0) :
    Calls Tryd.prog 59 #[.pointer (some ⟨P, 0, none⟩)] w fun r w' => r = .returned (.int .u8 0) ∧ RS w' P s (fstE a 3) ∧ Chg P w w' := by
  have hc := h.c0
  have HR : Hid (RS w P s a) := h
  clear h
  go_enter Tryd.func59, Tryd.ntmps59
  go_wp2_with fail
  refine (fail_any P s a 3 _ HR.out).mono ?_
  rintro e w1 ⟨rfl, r1, c1⟩
  go_wp2
  go_ret
  exact ⟨rfl, r1, c1⟩
set_option maxHeartbeats 1000000 in
set_option maxRecDepth 1000000 in
theorem next_cons (P : Nat) (s : ByteArray) (a : Int) (w : World) (h : RS w P s a) (hs : 0 < s.size) (hm : s.size ≤ maxLen) :
    Calls Tryd.prog 59 #[.pointer (some ⟨P, 0, none⟩)] w fun r w' => r = .returned (.int .u8 ((s[0]'hs).toNat : Int)) ∧ RS w' P (s.extract 1 s.size) a ∧ Chg P w w' := by
  have hc := h.c0
  have hf := h.f0 0
  have HR : Hid (RS w P s a) := h
  clear h
  unfold maxLen at hm
  go_enter Tryd.func59, Tryd.ntmps59
  go_wp2
  go_ret
  exact ⟨rfl, HR.out.set0 _, Chg.set _ _ _ _⟩
set_option maxHeartbeats 1000000 in
set_option maxRecDepth 1000000 in
theorem takeU_ok (P : Nat) (s : ByteArray) (a n : Int) (k : Nat) (_n0 : 0 ≤ n) (_n1 : n < 4294967296) (w : World) (h : RS w P s a) (_hm : s.size ≤ maxLen) (_hk : k ≤ s.size) (HRD : Hid (∀ w, Calls Tryd.prog 84 #[.string s, .int .i64 32] w fun e' w' => e' = .returned (.tuple #[.int .u64 n, .int .i64 (k : Int), .int .i64 0]) ∧ w' = w)) :
    Calls Tryd.prog 83 #[.pointer (some ⟨P, 0, none⟩), .func (.func 84) #[] #[], .int .i64 32] w fun r w' => r = .returned (.int .i64 n) ∧ RS w' P (s.extract k s.size) a ∧ Chg P w w' := by
  have hc := h.c0
  have hf := h.f0 0
  have HR : Hid (RS w P s a) := h
  clear h
  unfold maxLen at _hm
  go_enter Tryd.func83, Tryd.ntmps83
  go_wp2_with fail
  refine (HRD.out _).mono ?_
  rintro e w1 ⟨rfl, rfl⟩
  go_wp2
  go_ret
  exact ⟨rfl, HR.out.set0 _, Chg.set _ _ _ _⟩
set_option maxHeartbeats 1000000 in
set_option maxRecDepth 1000000 in
theorem takeU_err (P : Nat) (s : ByteArray) (a n k e : Int) (_he : (e == 0) = false) (w : World) (h : RS w P s a) (HRD : Hid (∀ w, Calls Tryd.prog 84 #[.string s, .int .i64 32] w fun e' w' => e' = .returned (.tuple #[.int .u64 n, .int .i64 k, .int .i64 e]) ∧ w' = w)) :
    Calls Tryd.prog 83 #[.pointer (some ⟨P, 0, none⟩), .func (.func 84) #[] #[], .int .i64 32] w fun r w' => r = .returned (.int .i64 0) ∧ RS w' P s (fstE a e) ∧ Chg P w w' := by
  have hc := h.c0
  have HR : Hid (RS w P s a) := h
  clear h
  go_enter Tryd.func83, Tryd.ntmps83
  go_wp2_with fail
  refine (HRD.out _).mono ?_
  rintro e w1 ⟨rfl, rfl⟩
  go_wp2_with fail
  refine (fail_any P s a e _ HR.out).mono ?_
  rintro e w1 ⟨rfl, r1, c1⟩
  go_wp2
  go_ret
  exact ⟨rfl, r1, c1⟩
set_option maxHeartbeats 1000000 in
set_option maxRecDepth 1000000 in
theorem takeS_ok (P : Nat) (s : ByteArray) (a n : Int) (k : Nat) (B : Int) (_n0 : -9223372036854775808 ≤ n) (_n1 : n ≤ 9223372036854775807) (w : World) (h : RS w P s a) (_hm : s.size ≤ maxLen) (_hk : k ≤ s.size) (HRD : Hid (∀ w, Calls Tryd.prog 66 #[.string s, .int .i64 B] w fun e' w' => e' = .returned (.tuple #[.int .i64 n, .int .i64 (k : Int), .int .i64 0]) ∧ w' = w)) :
    Calls Tryd.prog 65 #[.pointer (some ⟨P, 0, none⟩), .func (.func 66) #[] #[], .int .i64 B] w fun r w' => r = .returned (.int .i64 n) ∧ RS w' P (s.extract k s.size) a ∧ Chg P w w' := by
  have hc := h.c0
  have hf := h.f0 0
  have HR : Hid (RS w P s a) := h
  clear h
  unfold maxLen at _hm
  go_enter Tryd.func65, Tryd.ntmps65
  go_wp2_with fail
  refine (HRD.out _).mono ?_
  rintro e w1 ⟨rfl, rfl⟩
  go_wp2
  go_ret
  exact ⟨rfl, HR.out.set0 _, Chg.set _ _ _ _⟩
set_option maxHeartbeats 1000000 in
set_option maxRecDepth 1000000 in
theorem takeS_err (P : Nat) (s : ByteArray) (a n k e : Int) (B : Int) (_he : (e == 0) = false) (w : World) (h : RS w P s a) (HRD : Hid (∀ w, Calls Tryd.prog 66 #[.string s, .int .i64 B] w fun e' w' => e' = .returned (.tuple #[.int .i64 n, .int .i64 k, .int .i64 e]) ∧ w' = w)) :
    Calls Tryd.prog 65 #[.pointer (some ⟨P, 0, none⟩), .func (.func 66) #[] #[], .int .i64 B] w fun r w' => r = .returned (.int .i64 0) ∧ RS w' P s (fstE a e) ∧ Chg P w w' := by
  have hc := h.c0
  have HR : Hid (RS w P s a) := h
  clear h
  go_enter Tryd.func65, Tryd.ntmps65
  go_wp2_with fail
  refine (HRD.out _).mono ?_
  rintro e w1 ⟨rfl, rfl⟩
  go_wp2_with fail
  refine (fail_any P s a e _ HR.out).mono ?_
  rintro e w1 ⟨rfl, r1, c1⟩
  go_wp2
  go_ret
  exact ⟨rfl, r1, c1⟩
end Go.Proofs.YtdbhdgkbkhjikaaDoor
