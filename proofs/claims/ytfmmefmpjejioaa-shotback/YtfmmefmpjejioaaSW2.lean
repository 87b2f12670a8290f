/-
  The writer of texts: numbers.
-/
import Derived.Test.YtfmmefmpjejioaaSW1
import Derived.Test.YtfmmefmpjejioaaSM2
namespace Go.Proofs.Ytfmmefmpjejioaa
open Go.RowKit

/-- Behind a part: what is there now. -/
def WS (w : World) (B b : Nat) (f : Int) (t : List Int) (L : List Int) (e : Int) (C : Nat) (w' : World) : Prop :=
  ∃ L' e', WW w' B b L' e' ∧ OutW f t L e L' e' ∧ L'.length ≤ L.length + C ∧ BK B w w'
set_option maxHeartbeats 1000000 in
set_option maxRecDepth 1000000 in
theorem wneed_any (B b : Nat) (L : List Int) (e err : Int) (q : Bool) (w : World) (h : WW w B b L e) :
    Calls Try.prog 66 #[.pointer (some ⟨b, 0, none⟩), .bool q, .int .i64 err] w fun r w' => r = .returned (.tuple #[]) ∧ WW w' B b L (mNeed q err e) ∧ BK B w w' := by
  have hc := h.c2
  have hf := h.f2 2
  have HR : Hid (WW w B b L e) := h
  clear h
  by_cases h0 : e = 0
  · subst h0
    cases q
    · go_enter Try.func66, Try.ntmps66
      go_wp2
      go_end0
      exact ⟨rfl, HR.out.set2 err, HR.out.set _ _⟩
    · go_enter Try.func66, Try.ntmps66
      go_wp2
      go_end0
      exact ⟨rfl, HR.out, BK.refl _ _⟩
  · have hb : (e == 0) = false := by rw [beq_eq_false_iff_ne]; exact h0
    have e1 : Hid (mNeed q err e = e) := by unfold Hid mNeed fstE; rw [if_neg h0]; split <;> rfl
    go_enter Try.func66, Try.ntmps66
    go_wp2
    go_end0
    exact ⟨rfl, by rw [e1.out]; exact HR.out, BK.refl _ _⟩
set_option maxHeartbeats 1000000 in
set_option maxRecDepth 1000000 in
theorem wput_any (B b : Nat) (L : List Int) (e : Int) (s : ByteArray) (w : World) (h : WW w B b L e) (hB : B ≤ w.heap.size) (hl : e = 0 → L.length + s.size ≤ 100000000) :
    Calls Try.prog 65 #[.pointer (some ⟨b, 0, none⟩), .string s] w fun r w' => r = .returned (.tuple #[]) ∧ WW w' B b (if e = 0 then L ++ nums s else L) e ∧ BK B w w' := by
  have hc := h.c2
  have HR : Hid (WW w B b L e) := h
  clear h
  by_cases h0 : e = 0
  · subst h0
    have HL : Hid (type_of% (hl rfl)) := hl rfl
    clear hl
    go_enter Try.func65, Try.ntmps65
    go_wp2_with fail
    refine (wwrite_any B b L 0 s _ HR.out HL.out hB).mono ?_
    rintro r w1 ⟨rfl, h1, b1⟩
    have H1 : Hid (type_of% h1) := h1
    have HB1 : Hid (type_of% b1) := b1
    clear h1 b1
    go_wp2
    go_end0
    exact ⟨rfl, H1.out, HB1.out⟩
  · have hb : (e == 0) = false := by rw [beq_eq_false_iff_ne]; exact h0
    clear hl
    go_enter Try.func65, Try.ntmps65
    go_wp2
    go_end0
    exact ⟨rfl, HR.out, BK.refl _ _⟩
theorem if_len {e : Int} {L t : List Int} {C : Nat} (h : t.length ≤ C) : (if e = 0 then L ++ t else L).length ≤ L.length + C := by
  split
  · rw [List.length_append]; omega
  · omega
theorem nums_ofK (xs : List Int) (h : Bts xs) : nums (strOfNums xs) = xs := nums_str h
theorem strK_size (xs : List Int) : (strOfNums xs).size = xs.length := by
  unfold strOfNums
  show (xs.map fun n => UInt8.ofNat n.toNat).toArray.size = xs.length
  simp
set_option maxHeartbeats 1000000 in
set_option maxRecDepth 1000000 in
theorem wvalue_any (B b : Nat) (L : List Int) (e n : Int) (h1 : -9223372036854775808 ≤ n) (h2 : n ≤ 9223372036854775807) (w : World) (h : WW w B b L e) (hB : B ≤ w.heap.size) (hl : L.length ≤ 90000000) :
    Calls Try.prog 51 #[.pointer (some ⟨b, 0, none⟩), .int .i64 n] w fun r w' => r = .returned (.tuple #[]) ∧ WS w B b 0 (sB n) L e 10 w' := by
  have HR : Hid (WW w B b L e) := h
  have HLn : Hid ((sB n).length ≤ 10) := sB_len64 n h1 h2
  have HLL : Hid (L.length ≤ 90000000) := hl
  have HBB : Hid (B ≤ w.heap.size) := hB
  clear h hl hB
  go_enter Try.func51, Try.ntmps51
  go_wp2_with fail
  refine (s_any n h1 h2 _).mono ?_
  rintro r w1 ⟨rfl, b1⟩
  have HR1 : Hid (WW w1 B b L e) := HR.out.below b1
  have HB1 : Hid (BK B w w1) := BK.new b1 HBB.out
  clear b1 HR
  go_wp2_with fail
  refine (wput_any B b L e (strOfNums (sB n)) _ HR1.out (Nat.le_trans HBB.out HB1.out.size) (fun _ => by rw [strK_size]; have := HLn.out; have := HLL.out; omega)).mono ?_
  rintro r w2 ⟨rfl, h2, b2⟩
  rw [nums_ofK _ (sB_byte n)] at h2
  have H2 : Hid (type_of% h2) := h2
  have HB2 : Hid (BK B w w2) := HB1.out.trans b2
  clear h2 b2 HR1 HB1
  go_wp2
  go_end0
  exact ⟨rfl, _, _, H2.out, OutW.put _ _ _, if_len HLn.out, HB2.out⟩
set_option maxHeartbeats 1000000 in
set_option maxRecDepth 1000000 in
theorem wplace_any (B b : Nat) (L : List Int) (e n : Int) (h1 : -9223372036854775808 ≤ n) (h2 : n ≤ 9223372036854775807) (w : World) (h : WW w B b L e) (hB : B ≤ w.heap.size) (hl : L.length ≤ 90000000) :
    Calls Try.prog 49 #[.pointer (some ⟨b, 0, none⟩), .int .i64 n] w fun r w' => r = .returned (.tuple #[]) ∧ WS w B b (fPla n) (sB n) L e 10 w' := by
  obtain ⟨q, hq⟩ : ∃ q, q = (decide (-2147483648 ≤ n) && decide (n ≤ 2147483647)) := ⟨_, rfl⟩
  have HF : Hid (fPla n = if q then 0 else 1) := by
    unfold Hid fPla
    rw [hq]
    by_cases a : -2147483648 ≤ n <;> by_cases c : n ≤ 2147483647 <;> simp [a, c]
  have HN : Hid (type_of% (wneed_any B b L e 1 q w h)) := wneed_any B b L e 1 q w h
  have HLL : Hid (L.length ≤ 90000000) := hl
  have HBB : Hid (B ≤ w.heap.size) := hB
  have H12 : Hid (-9223372036854775808 ≤ n ∧ n ≤ 9223372036854775807) := ⟨h1, h2⟩
  have HQ : Hid (type_of% hq) := hq
  rw [HQ.out] at HN
  clear h hl hB hq h1 h2
  by_cases ha : -2147483648 ≤ n
  · rw [decide_eq_true ha, Bool.true_and] at HN HQ
    rw [← HQ.out] at HN
    have hd : decide (n ≤ 2147483647) = q := HQ.out.symm
    go_enter Try.func49, Try.ntmps49
    go_wp2_with fail
    refine HN.out.mono ?_
    rintro r w1 ⟨rfl, h1, b1⟩
    have HR1 : Hid (type_of% h1) := h1
    have HB1 : Hid (BK B w w1) := b1
    clear h1 b1 HN
    go_wp2_with fail
    refine (wvalue_any B b L _ n H12.out.1 H12.out.2 _ HR1.out (Nat.le_trans HBB.out HB1.out.size) HLL.out).mono ?_
    rintro r w2 ⟨rfl, L2, e2, hw, ho, hlen, b2⟩
    have HE : Hid (WS w B b (fPla n) (sB n) L e 10 w2) := ⟨L2, e2, hw, ((OutW.need q 1 L e (by decide)).seq ho).as (by rw [HF.out]; unfold fstE; split <;> simp_all) (fun _ => List.nil_append _), hlen, HB1.out.trans b2⟩
    clear hw ho hlen b2 HR1 HB1
    go_wp2
    go_end0
    exact ⟨rfl, HE.out⟩
  · rw [decide_eq_false ha, Bool.false_and] at HN HQ
    have hq := HQ.out
    subst hq
    have hd : decide (-2147483648 ≤ n) = false := decide_eq_false ha
    go_enter Try.func49, Try.ntmps49
    go_wp2_with fail
    refine HN.out.mono ?_
    rintro r w1 ⟨rfl, h1, b1⟩
    have HR1 : Hid (type_of% h1) := h1
    have HB1 : Hid (BK B w w1) := b1
    clear h1 b1 HN
    go_wp2_with fail
    refine (wvalue_any B b L _ n H12.out.1 H12.out.2 _ HR1.out (Nat.le_trans HBB.out HB1.out.size) HLL.out).mono ?_
    rintro r w2 ⟨rfl, L2, e2, hw, ho, hlen, b2⟩
    have HE : Hid (WS w B b (fPla n) (sB n) L e 10 w2) := ⟨L2, e2, hw, ((OutW.need false 1 L e (by decide)).seq ho).as (by rw [HF.out]; unfold fstE; split <;> simp_all) (fun _ => List.nil_append _), hlen, HB1.out.trans b2⟩
    clear hw ho hlen b2 HR1 HB1
    go_wp2
    go_end0
    exact ⟨rfl, HE.out⟩
end Go.Proofs.Ytfmmefmpjejioaa
