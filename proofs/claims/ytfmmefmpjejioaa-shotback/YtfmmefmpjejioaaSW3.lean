/-
  The writer of texts: numbers without a sign, counts, bytes.
-/
import Derived.Test.YtfmmefmpjejioaaSW2
namespace Go.Proofs.Ytfmmefmpjejioaa
open Go.RowKit

set_option maxHeartbeats 1000000 in
set_option maxRecDepth 1000000 in
theorem wnumber_good (B b : Nat) (L : List Int) (e n : Int) (h1 : 0 ≤ n) (h2 : n ≤ 4294967295) (w : World) (h : WW w B b L e) (hB : B ≤ w.heap.size) (hl : L.length ≤ 90000000) :
    Calls Try.prog 52 #[.pointer (some ⟨b, 0, none⟩), .int .i64 n] w fun r w' => r = .returned (.tuple #[]) ∧ WS w B b 0 (uB n.toNat) L e 10 w' := by
  have HN : Hid (type_of% (wneed_any B b L e 1 true w h)) := wneed_any B b L e 1 true w h
  have HLL : Hid (L.length ≤ 90000000) := hl
  have HBB : Hid (B ≤ w.heap.size) := hB
  obtain ⟨m, rfl⟩ : ∃ m : Nat, n = (m : Int) := ⟨n.toNat, by omega⟩
  have HLn : Hid ((uB m).length ≤ 10) := uB_len64 m (by omega)
  have hm : m ≤ 18446744073709551615 := by omega
  clear h hl hB
  go_enter Try.func52, Try.ntmps52
  go_wp2_with fail
  refine HN.out.mono ?_
  rintro r w1 ⟨rfl, h1, b1⟩
  have HR1 : Hid (WW w1 B b L e) := h1
  have HB1 : Hid (BK B w w1) := b1
  clear h1 b1 HN
  go_wp2_with fail
  refine (u_any m hm _).mono ?_
  rintro r w2 ⟨rfl, b2⟩
  have HR2 : Hid (WW w2 B b L e) := HR1.out.below b2
  have HB2 : Hid (BK B w w2) := HB1.out.trans (BK.new b2 (Nat.le_trans HBB.out HB1.out.size))
  clear b2 HR1 HB1
  go_wp2_with fail
  refine (wput_any B b L e (strOfNums (uB m)) _ HR2.out (Nat.le_trans HBB.out HB2.out.size) (fun _ => by rw [strK_size]; have := HLn.out; have := HLL.out; omega)).mono ?_
  rintro r w3 ⟨rfl, h3, b3⟩
  rw [nums_ofK _ (uB_byte m)] at h3
  have H3 : Hid (type_of% h3) := h3
  have HB3 : Hid (BK B w w3) := HB2.out.trans b3
  clear h3 b3 HR2 HB2
  go_wp2
  go_end0
  exact ⟨rfl, _, _, H3.out, OutW.put _ _ _, if_len HLn.out, HB3.out⟩
set_option maxHeartbeats 1000000 in
set_option maxRecDepth 1000000 in
theorem wnumber_bad (B b : Nat) (L : List Int) (e n : Int) (u : List Int) (h1 : -9223372036854775808 ≤ n) (h2 : n ≤ 9223372036854775807) (hn : ¬ (0 ≤ n ∧ n ≤ 4294967295)) (w : World) (h : WW w B b L e) (hB : B ≤ w.heap.size) :
    Calls Try.prog 52 #[.pointer (some ⟨b, 0, none⟩), .int .i64 n] w fun r w' => r = .returned (.tuple #[]) ∧ WS w B b 1 u L e 10 w' := by
  have HN : Hid (type_of% (wneed_any B b L e 1 false w h)) := wneed_any B b L e 1 false w h
  have HBB : Hid (B ≤ w.heap.size) := hB
  obtain ⟨s, hs⟩ : ∃ s, s = mNeed false 1 e := ⟨_, rfl⟩
  have hs0 : s ≠ 0 := by
    rw [hs]
    unfold mNeed fstE
    simp only [Bool.false_eq_true, if_false]
    split
    · decide
    · rename_i h0; exact h0
  have HO : Hid (OutW 1 u L e L s) := by
    have := (OutW.need false 1 L e (by decide)).stop (g := 0) (u := u) (by rw [← hs]; exact hs0)
    rw [← hs] at this
    exact this
  rw [← hs] at HN
  have HS0 : Hid (type_of% hs0) := hs0
  clear h hB hs hs0
  by_cases ha : 0 ≤ n
  · have hc : ¬ n ≤ 4294967295 := fun h => hn ⟨ha, h⟩
    obtain ⟨m, rfl⟩ : ∃ m : Nat, n = (m : Int) := ⟨n.toNat, by omega⟩
    have hd : decide ((m : Int) ≤ 4294967295) = false := decide_eq_false hc
    have hm : m ≤ 18446744073709551615 := by omega
    clear hn
    go_enter Try.func52, Try.ntmps52
    go_wp2_with fail
    refine HN.out.mono ?_
    rintro r w1 ⟨rfl, h1, b1⟩
    have HR1 : Hid (WW w1 B b L s) := h1
    have HB1 : Hid (BK B w w1) := b1
    clear h1 b1 HN
    go_wp2_with fail
    refine (u_any m hm _).mono ?_
    rintro r w2 ⟨rfl, b2⟩
    have HR2 : Hid (WW w2 B b L s) := HR1.out.below b2
    have HB2 : Hid (BK B w w2) := HB1.out.trans (BK.new b2 (Nat.le_trans HBB.out HB1.out.size))
    clear b2 HR1 HB1
    go_wp2_with fail
    refine (wput_any B b L s (strOfNums (uB m)) _ HR2.out (Nat.le_trans HBB.out HB2.out.size) (fun h => absurd h HS0.out)).mono ?_
    rintro r w3 ⟨rfl, h3, b3⟩
    rw [if_neg HS0.out] at h3
    have H3 : Hid (type_of% h3) := h3
    have HB3 : Hid (BK B w w3) := HB2.out.trans b3
    clear h3 b3 HR2 HB2
    go_wp2
    go_end0
    exact ⟨rfl, L, s, H3.out, HO.out, by omega, HB3.out⟩
  · have hd : decide ((0 : Int) ≤ n) = false := decide_eq_false ha
    have hw : n % 18446744073709551616 = n + 18446744073709551616 := by omega
    obtain ⟨m, hm1⟩ : ∃ m : Nat, n + 18446744073709551616 = (m : Int) := ⟨(n + 18446744073709551616).toNat, by omega⟩
    have hm : m ≤ 18446744073709551615 := by omega
    rw [hm1] at hw
    have hw2 : IntKind.u64.wrap n = (m : Int) := hw
    clear hn
    go_enter Try.func52, Try.ntmps52
    go_wp2_with fail
    refine HN.out.mono ?_
    rintro r w1 ⟨rfl, h1, b1⟩
    have HR1 : Hid (WW w1 B b L s) := h1
    have HB1 : Hid (BK B w w1) := b1
    clear h1 b1 HN
    go_wp2_with fail
    refine (u_any m hm _).mono ?_
    rintro r w2 ⟨rfl, b2⟩
    have HR2 : Hid (WW w2 B b L s) := HR1.out.below b2
    have HB2 : Hid (BK B w w2) := HB1.out.trans (BK.new b2 (Nat.le_trans HBB.out HB1.out.size))
    clear b2 HR1 HB1
    go_wp2_with fail
    refine (wput_any B b L s (strOfNums (uB m)) _ HR2.out (Nat.le_trans HBB.out HB2.out.size) (fun h => absurd h HS0.out)).mono ?_
    rintro r w3 ⟨rfl, h3, b3⟩
    rw [if_neg HS0.out] at h3
    have H3 : Hid (type_of% h3) := h3
    have HB3 : Hid (BK B w w3) := HB2.out.trans b3
    clear h3 b3 HR2 HB2
    go_wp2
    go_end0
    exact ⟨rfl, L, s, H3.out, HO.out, by omega, HB3.out⟩
theorem wnumber_any (B b : Nat) (L : List Int) (e n : Int) (h1 : -9223372036854775808 ≤ n) (h2 : n ≤ 9223372036854775807) (w : World) (h : WW w B b L e) (hB : B ≤ w.heap.size) (hl : L.length ≤ 90000000) :
    Calls Try.prog 52 #[.pointer (some ⟨b, 0, none⟩), .int .i64 n] w fun r w' => r = .returned (.tuple #[]) ∧ WS w B b (fNum n) (uB n.toNat) L e 10 w' := by
  by_cases hn : 0 ≤ n ∧ n ≤ 4294967295
  · have e1 : fNum n = 0 := by unfold fNum; rw [if_pos hn]
    rw [e1]
    exact wnumber_good B b L e n hn.1 hn.2 w h hB hl
  · have e1 : fNum n = 1 := by unfold fNum; rw [if_neg hn]
    rw [e1]
    exact wnumber_bad B b L e n _ h1 h2 hn w h hB
set_option maxHeartbeats 1000000 in
set_option maxRecDepth 1000000 in
theorem wcount_any (B b : Nat) (L : List Int) (e most : Int) (n : Nat) (_hn : n ≤ 9223372036854775807) (_hm0 : 0 ≤ most) (_hm : most ≤ 4294967295) (w : World) (h : WW w B b L e) (hB : B ≤ w.heap.size) (hl : L.length ≤ 90000000) :
    Calls Try.prog 64 #[.pointer (some ⟨b, 0, none⟩), .int .i64 (n : Int), .int .i64 most] w fun r w' => r = .returned (.tuple #[]) ∧ WS w B b (fCnt n most) (uB n) L e 10 w' := by
  obtain ⟨q, hd⟩ : ∃ q, decide ((n : Int) ≤ most) = q := ⟨_, rfl⟩
  have HF : Hid (fCnt n most = if q then 0 else 2) := by
    unfold Hid fCnt
    rw [← hd]
    by_cases a : (n : Int) ≤ most <;> simp [a]
  have HFN : Hid (q = true → fNum (n : Int) = 0) := fun hq => by
    rw [hq] at hd
    have := of_decide_eq_true hd
    unfold fNum
    rw [if_pos ⟨by omega, by omega⟩]
  have HN : Hid (type_of% (wneed_any B b L e 2 q w h)) := wneed_any B b L e 2 q w h
  have HLL : Hid (L.length ≤ 90000000) := hl
  have HBB : Hid (B ≤ w.heap.size) := hB
  clear h hl hB
  go_enter Try.func64, Try.ntmps64
  go_wp2_with fail
  refine HN.out.mono ?_
  rintro r w1 ⟨rfl, h1, b1⟩
  have HR1 : Hid (type_of% h1) := h1
  have HB1 : Hid (BK B w w1) := b1
  clear h1 b1 HN
  go_wp2_with fail
  refine (wnumber_any B b L _ (n : Int) (by omega) (by omega) _ HR1.out (Nat.le_trans HBB.out HB1.out.size) HLL.out).mono ?_
  rintro r w2 ⟨rfl, L2, e2, hw, ho, hlen, b2⟩
  have HE : Hid (WS w B b (fCnt n most) (uB n) L e 10 w2) := by
    refine ⟨L2, e2, hw, ?_, hlen, HB1.out.trans b2⟩
    rw [Int.toNat_natCast] at ho
    refine ((OutW.need q 2 L e (by decide)).seq ho).as ?_ (fun _ => List.nil_append _)
    rw [HF.out]
    cases hq : q
    · rfl
    · rw [HFN.out hq]
      rfl
  clear hw ho hlen b2 HR1 HB1
  go_wp2
  go_end0
  exact ⟨rfl, HE.out⟩
set_option maxHeartbeats 1000000 in
set_option maxRecDepth 1000000 in
theorem wbytes_any (B b : Nat) (L : List Int) (e M : Int) (HM : Hid (M = 2048)) (s : ByteArray) (hs : s.size ≤ maxLen) (w : World) (h : WW w B b L e) (hB : B ≤ w.heap.size) (hl : L.length ≤ 80000000) :
    Calls Try.prog 47 #[.pointer (some ⟨b, 0, none⟩), .string s] w fun r w' => r = .returned (.tuple #[]) ∧ WS w B b (fCnt s.size M) (tBytes (nums s)) L e 10000 w' := by
  have hsz : s.size ≤ 9223372036854775807 := hs
  have HN : Hid (Calls Try.prog 64 #[.pointer (some ⟨b, 0, none⟩), .int .i64 (s.size : Int), .int .i64 2048] w fun r w' => r = .returned (.tuple #[]) ∧ WS w B b (fCnt s.size M) (uB s.size) L e 10 w') := by
    rw [HM.out]
    exact wcount_any B b L e 2048 s.size hsz (by decide) (by decide) w h hB (by omega)
  have HMM : Hid (M ≤ 9000) := by unfold Hid; rw [HM.out]; decide
  have HLL : Hid (L.length ≤ 80000000) := hl
  have HBB : Hid (B ≤ w.heap.size) := hB
  clear h hl hB HM
  go_enter Try.func47, Try.ntmps47
  go_wp2_with fail
  refine HN.out.mono ?_
  rintro r w1 ⟨rfl, L1, e1, h1, o1, hl1, b1⟩
  have HR1 : Hid (type_of% h1) := h1
  have HB1 : Hid (BK B w w1) := b1
  have HO1 : Hid (type_of% o1) := o1
  have HL1 : Hid (L1.length ≤ L.length + 10) := hl1
  have HZ : Hid (e1 = 0 → (s.size : Int) ≤ M) := by
    intro h0
    by_cases he : e = 0
    · by_cases hf : fCnt s.size M = 0
      · exact (fCnt_zero _ _).1 hf
      · have := (o1.2 he).1 hf
        rw [h0] at this
        exact absurd this.symm hf
    · have := o1.1 he
      rw [h0] at this
      exact absurd this.symm he
  clear h1 b1 o1 hl1 HN
  go_wp2_with fail
  refine (wput_any B b L1 e1 s _ HR1.out (Nat.le_trans HBB.out HB1.out.size) (fun h0 => by have := HZ.out h0; have := HL1.out; have := HLL.out; have := HMM.out; omega)).mono ?_
  rintro r w2 ⟨rfl, h2, b2⟩
  have HE : Hid (WS w B b (fCnt s.size M) (tBytes (nums s)) L e 10000 w2) := by
    refine ⟨_, _, h2, ?_, ?_, HB1.out.trans b2⟩
    · refine (HO1.out.seq (OutW.put (nums s) L1 e1)).as ?_ (fun _ => by unfold tBytes; rw [nums_length])
      unfold fstE
      split
      · rename_i h; exact h.symm
      · rfl
    · have a1 := HL1.out
      have a2 := HMM.out
      split
      · rename_i h0
        have := HZ.out h0
        rw [List.length_append, nums_length]
        omega
      · omega
  clear h2 b2 HR1 HB1
  go_wp2
  go_end0
  exact ⟨rfl, HE.out⟩
end Go.Proofs.Ytfmmefmpjejioaa
