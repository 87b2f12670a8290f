/-
  The writer of texts: lists.
-/
import Derived.Test.YtfmmefmpjejioaaSW3
namespace Go.Proofs.Ytfmmefmpjejioaa
open Go.RowKit

/-- So far in a row of writings. -/
def WL {α : Type} (f : α → Int) (t : α → List Int) (C : Nat) (xs : List α) (most : Int) (w0 : World) (b : Nat) (L1 : List Int) (e1 : Int) (w1 : World) (i : Nat) (wr : World) (Li : List Int) (ei : Int) : Prop :=
  WW wr w0.heap.size b Li ei ∧ OutW (fAll f (xs.take i)) ((xs.take i).flatMap t) L1 e1 Li ei ∧ Li.length ≤ L1.length + C * i ∧ BK w0.heap.size w1 wr ∧ (0 < i → (xs.length : Int) ≤ most)
section
variable {α : Type} {f : α → Int} {t : α → List Int} {C : Nat} {xs : List α} {most : Int} {w0 w1 wr : World} {b i : Nat} {L1 Li : List Int} {e1 ei : Int}
theorem WL.start (h : WW w1 w0.heap.size b L1 e1) : WL f t C xs most w0 b L1 e1 w1 0 w1 L1 e1 :=
  ⟨h, by rw [List.take_zero]; exact ⟨fun _ => rfl, fun h => ⟨fun h2 => absurd rfl h2, fun _ => ⟨h, (List.append_nil _).symm⟩⟩⟩, by omega, BK.refl _ _, fun h => absurd h (by omega)⟩
theorem WL.zero (h : WL f t C xs most w0 b L1 e1 w1 i wr Li ei) (h0 : ei = 0) : e1 = 0 := by
  by_cases he : e1 = 0
  · exact he
  · have := h.2.1.1 he
    rw [h0] at this
    exact absurd this.symm he
theorem WL.below {w2 : World} (h : WL f t C xs most w0 b L1 e1 w1 i wr Li ei) (q : Below wr.heap.size wr w2) (hs : w0.heap.size ≤ wr.heap.size) : WL f t C xs most w0 b L1 e1 w1 i w2 Li ei :=
  ⟨h.1.below q, h.2.1, h.2.2.1, h.2.2.2.1.trans (BK.new q hs), h.2.2.2.2⟩
theorem WL.step {w2 : World} (h : WL f t C xs most w0 b L1 e1 w1 i wr Li ei) (hi : i < xs.length) (hm : (xs.length : Int) ≤ most) (s : WS wr w0.heap.size b (f (xs[i]'hi)) (t (xs[i]'hi)) Li ei C w2) : ∃ L2 e2, WL f t C xs most w0 b L1 e1 w1 (i + 1) w2 L2 e2 := by
  obtain ⟨L2, e2, k1, k2, k3, k4⟩ := s
  refine ⟨L2, e2, k1, ?_, ?_, h.2.2.2.1.trans k4, fun _ => hm⟩
  · rw [List.take_succ_eq_append_getElem hi, fAll_one, List.flatMap_append, List.flatMap_cons, List.flatMap_nil, List.append_nil]
    exact h.2.1.seq k2
  · have := h.2.2.1
    rw [Nat.mul_add]
    omega
/-- At an error, or at the end. -/
theorem WL.done {B0 : Nat} {L : List Int} {e : Int} {w : World} {T : List Int} {c : Int} (h : WL f t C xs most w0 b L1 e1 w1 i wr Li ei) (hn : i ≤ xs.length) (h1 : ei ≠ 0 ∨ i = xs.length) (o : OutW c T L e L1 e1) (hl : L1.length ≤ L.length + 10) (hb : BK w0.heap.size w w1) (hm : most ≤ 200) (hm0 : 0 ≤ most) (hB0 : 10 + C * 200 ≤ B0) (hc : c = fCnt xs.length most) (hT : T = uB xs.length) : WS w w0.heap.size b (fList most f xs) (tList t xs) L e B0 wr := by
  refine ⟨Li, ei, h.1, ?_, ?_, hb.trans h.2.2.2.1⟩
  · subst hc hT
    rcases h1 with h1 | h1
    · have k := (h.2.1.stop (g := fAll f (xs.drop i)) (u := xs.flatMap t) h1)
      rw [← fAll_split] at k
      exact o.seq k
    · have k := h.2.1
      rw [h1, List.take_length] at k
      exact o.seq k
  · have := h.2.2.1
    have q : C * i ≤ C * 200 := by
      by_cases h0 : 0 < i
      · have := h.2.2.2.2 h0
        exact Nat.mul_le_mul_left C (by omega)
      · have : i = 0 := by omega
        subst this
        omega
    omega
end
/-- The numbers of a list that was handed in before w0. -/
theorem num_at {w0 wr : World} {d : NumD} {i : Nat} (hd : d.ok .i64 w0) (hi : i < d.n) (hb : Below w0.heap.size w0 wr) : ∃ (g f : Nat) (h : i < d.xs.length), d.o = some ⟨g, f, none⟩ ∧ wr.cell? ⟨g, f + i, none⟩ = some (.int .i64 (d.xs[i]'h)) ∧ -9223372036854775808 ≤ (d.xs[i]'h) ∧ (d.xs[i]'h) ≤ 9223372036854775807 := by
  have hx : i < d.xs.length := by rw [hd.len]; exact hi
  rcases hd.at' with h0 | ⟨a, h1, h2, h3⟩
  · omega
  · obtain ⟨g, f, sp⟩ := a
    have hc0 := h3 0 (by omega)
    have hsp : sp = none := by simpa [Addr.add] using World.cell?_spot hc0
    subst hsp
    have hadd : (⟨g, f, none⟩ : Addr).add i = ⟨g, f + i, none⟩ := by unfold Addr.add; split <;> simp_all
    have h4 := h3 i hi
    rw [hadd, List.getD_eq_getElem?_getD, List.getElem?_eq_getElem hx] at h4
    have hw := hd.wf _ (List.getElem_mem hx)
    have a : IntKind.i64.min = -9223372036854775808 := by decide
    have b : IntKind.i64.max = 9223372036854775807 := by decide
    simp [Lit.wf, a, b] at hw
    exact ⟨g, f, hx, h1, by rw [hb.cell (p := ⟨g, f + i, none⟩) h2]; exact h4, hw.1, hw.2⟩
set_option maxHeartbeats 4000000 in
set_option maxRecDepth 1000000 in
theorem wlist_int (w0 : World) (b : Nat) (d : NumD) (L : List Int) (e most : Int) (hm0 : 0 ≤ most) (hm : most ≤ 200) (hd : d.ok .i64 w0) (w : World) (h : WW w w0.heap.size b L e) (hb : Below w0.heap.size w0 w) (hl : L.length ≤ 60000000) :
    Calls Try.prog 48 #[.pointer (some ⟨b, 0, none⟩), .slice d.o d.n d.cap, .int .i64 most, .func (.func 49) #[.pointer (some ⟨b, 0, none⟩)] #[]] w fun r w' => r = .returned (.tuple #[]) ∧ WS w w0.heap.size b (fList most fPla d.xs) (tList sB d.xs) L e 3000 w' := by
  have hcap := hd.le
  have hmx := hd.most
  unfold maxLen at hmx
  have HC : Hid (type_of% (wcount_any w0.heap.size b L e most d.n (by omega) hm0 (by omega) w h hb.size (by omega))) := wcount_any w0.heap.size b L e most d.n (by omega) hm0 (by omega) w h hb.size (by omega)
  have HD : Hid (d.ok .i64 w0) := hd
  have HB : Hid (Below w0.heap.size w0 w) := hb
  have HLn : Hid (d.xs.length = d.n) := hd.len
  have HLL : Hid (L.length ≤ 60000000) := hl
  obtain ⟨o, n, cap, xs⟩ := d
  dsimp only at hcap hmx HC HLn ⊢
  clear h hb hd hl
  go_enter Try.func48, Try.ntmps48
  go_wp2_with fail
  refine HC.out.mono ?_
  rintro r w1 ⟨rfl, L1, e1, h1, o1, hl1, b1⟩
  have HR1 : Hid (WW w1 w0.heap.size b L1 e1) := h1
  have HB1 : Hid (BK w0.heap.size w w1) := b1
  have HO1 : Hid (OutW (fCnt n most) (uB n) L e L1 e1 ∧ L1.length ≤ L.length + 10) := ⟨o1, hl1⟩
  have HZ : Hid (e1 = 0 → (n : Int) ≤ most) := by
    intro h0
    by_cases he : e = 0
    · by_cases hf : fCnt n most = 0
      · exact (fCnt_zero _ _).1 hf
      · have := (o1.2 he).1 hf
        rw [h0] at this
        exact absurd this.symm hf
    · have := o1.1 he
      rw [h0] at this
      exact absurd this.symm he
  clear h1 b1 o1 hl1 HC
  go_wp2
  go_loopw [17] (fun iv wr => ∃ i : Nat, iv = .int .i64 (i : Int) ∧ i ≤ n ∧ Hid (∃ Li ei, WL fPla sB 10 xs most w0 b L1 e1 w1 i wr Li ei)) (fun iv _ => n - (intOf iv).toNat)
  case atStart => exact ⟨0, rfl, by omega, L1, e1, WL.start HR1.out⟩
  case round =>
    obtain ⟨i, rfl, hin, HW⟩ := hrel
    obtain ⟨Li, ei, hwl⟩ := HW.out
    have HWL : Hid (WL fPla sB 10 xs most w0 b L1 e1 w1 i wr Li ei) := hwl
    have HBR : Hid (Below w0.heap.size w0 wr) := (HB.out.trans HB1.out.b).trans hwl.2.2.2.1.b
    have hc2 := hwl.1.c2
    clear hwl HW HR1
    by_cases hlt : i < n
    · obtain ⟨g, f, hx, ho, hcx, hx1, hx2⟩ := num_at HD.out hlt HBR.out
      dsimp only at ho hx hcx hx1 hx2
      subst ho
      have HX : Hid (i < xs.length) := hx
      have HXV : Hid (∃ x, x = xs[i]'hx) := ⟨_, rfl⟩
      obtain ⟨x, hxx⟩ := HXV.out
      have HXX : Hid (x = xs[i]'HX.out) := hxx
      rw [← hxx] at hcx hx1 hx2
      have hi0 : (0 : Int) ≤ (i : Int) := by omega
      have hi1 : (i : Int) < (n : Int) := by omega
      clear hx hxx HXV
      by_cases h0 : ei = 0
      · subst h0
        have hnm := HZ.out (HWL.out.zero rfl)
        have HLi : Hid (Li.length ≤ 90000000) := by
          have := HWL.out.2.2.1
          have := HO1.out.2
          have := HLL.out
          unfold Hid
          omega
        go_wp2_with fail
        refine (wplace_any w0.heap.size b Li 0 x hx1 hx2 _ HWL.out.1 HBR.out.size HLi.out).mono ?_
        rintro r w2 ⟨rfl, hs⟩
        have HN : Hid (∃ L2 e2, WL fPla sB 10 xs most w0 b L1 e1 w1 (i + 1) w2 L2 e2) := by
          rw [HXX.out] at hs
          exact HWL.out.step HX.out (by rw [HLn.out]; exact hnm) hs
        clear hs HWL HBR HLi HXX HX
        go_wp2
        go_roundw
        case rel => exact ⟨i + 1, by go_num, by omega, HN⟩
        case measure => simp [intOf]; omega
      · have hb0 : (ei == 0) = false := by rw [beq_eq_false_iff_ne]; exact h0
        have hn0 : (ei != 0) = true := by rw [bne, hb0]; rfl
        have HH0 : Hid (ei ≠ 0) := h0
        clear h0
        go_wp2
        refine bodyPost_ret (results_none rfl _ _ _) rfl ?_
        exact ⟨rfl, HWL.out.done (by rw [HLn.out]; exact hin) (Or.inl HH0.out) HO1.out.1 HO1.out.2 HB1.out hm hm0 (by decide) (by rw [HLn.out]) (by rw [HLn.out])⟩
    · have HE : Hid (i = xs.length) := by unfold Hid; rw [HLn.out]; omega
      go_wp2
      go_end0
      exact ⟨rfl, HWL.out.done (by rw [HLn.out]; exact hin) (Or.inr HE.out) HO1.out.1 HO1.out.2 HB1.out hm hm0 (by decide) (by rw [HLn.out]) (by rw [HLn.out])⟩
set_option maxHeartbeats 4000000 in
set_option maxRecDepth 1000000 in
theorem wlist_i64 (w0 : World) (b : Nat) (d : NumD) (L : List Int) (e most : Int) (hm0 : 0 ≤ most) (hm : most ≤ 200) (hd : d.ok .i64 w0) (w : World) (h : WW w w0.heap.size b L e) (hb : Below w0.heap.size w0 w) (hl : L.length ≤ 60000000) :
    Calls Try.prog 50 #[.pointer (some ⟨b, 0, none⟩), .slice d.o d.n d.cap, .int .i64 most, .func (.func 51) #[.pointer (some ⟨b, 0, none⟩)] #[]] w fun r w' => r = .returned (.tuple #[]) ∧ WS w w0.heap.size b (fList most fVal d.xs) (tList sB d.xs) L e 3000 w' := by
  have hcap := hd.le
  have hmx := hd.most
  unfold maxLen at hmx
  have HC : Hid (type_of% (wcount_any w0.heap.size b L e most d.n (by omega) hm0 (by omega) w h hb.size (by omega))) := wcount_any w0.heap.size b L e most d.n (by omega) hm0 (by omega) w h hb.size (by omega)
  have HD : Hid (d.ok .i64 w0) := hd
  have HB : Hid (Below w0.heap.size w0 w) := hb
  have HLn : Hid (d.xs.length = d.n) := hd.len
  have HLL : Hid (L.length ≤ 60000000) := hl
  obtain ⟨o, n, cap, xs⟩ := d
  dsimp only at hcap hmx HC HLn ⊢
  clear h hb hd hl
  go_enter Try.func50, Try.ntmps50
  go_wp2_with fail
  refine HC.out.mono ?_
  rintro r w1 ⟨rfl, L1, e1, h1, o1, hl1, b1⟩
  have HR1 : Hid (WW w1 w0.heap.size b L1 e1) := h1
  have HB1 : Hid (BK w0.heap.size w w1) := b1
  have HO1 : Hid (OutW (fCnt n most) (uB n) L e L1 e1 ∧ L1.length ≤ L.length + 10) := ⟨o1, hl1⟩
  have HZ : Hid (e1 = 0 → (n : Int) ≤ most) := by
    intro h0
    by_cases he : e = 0
    · by_cases hf : fCnt n most = 0
      · exact (fCnt_zero _ _).1 hf
      · have := (o1.2 he).1 hf
        rw [h0] at this
        exact absurd this.symm hf
    · have := o1.1 he
      rw [h0] at this
      exact absurd this.symm he
  clear h1 b1 o1 hl1 HC
  go_wp2
  go_loopw [17] (fun iv wr => ∃ i : Nat, iv = .int .i64 (i : Int) ∧ i ≤ n ∧ Hid (∃ Li ei, WL fVal sB 10 xs most w0 b L1 e1 w1 i wr Li ei)) (fun iv _ => n - (intOf iv).toNat)
  case atStart => exact ⟨0, rfl, by omega, L1, e1, WL.start HR1.out⟩
  case round =>
    obtain ⟨i, rfl, hin, HW⟩ := hrel
    obtain ⟨Li, ei, hwl⟩ := HW.out
    have HWL : Hid (WL fVal sB 10 xs most w0 b L1 e1 w1 i wr Li ei) := hwl
    have HBR : Hid (Below w0.heap.size w0 wr) := (HB.out.trans HB1.out.b).trans hwl.2.2.2.1.b
    have hc2 := hwl.1.c2
    clear hwl HW HR1
    by_cases hlt : i < n
    · obtain ⟨g, f, hx, ho, hcx, hx1, hx2⟩ := num_at HD.out hlt HBR.out
      dsimp only at ho hx hcx hx1 hx2
      subst ho
      have HX : Hid (i < xs.length) := hx
      have HXV : Hid (∃ x, x = xs[i]'hx) := ⟨_, rfl⟩
      obtain ⟨x, hxx⟩ := HXV.out
      have HXX : Hid (x = xs[i]'HX.out) := hxx
      rw [← hxx] at hcx hx1 hx2
      have hi0 : (0 : Int) ≤ (i : Int) := by omega
      have hi1 : (i : Int) < (n : Int) := by omega
      clear hx hxx HXV
      by_cases h0 : ei = 0
      · subst h0
        have hnm := HZ.out (HWL.out.zero rfl)
        have HLi : Hid (Li.length ≤ 90000000) := by
          have := HWL.out.2.2.1
          have := HO1.out.2
          have := HLL.out
          unfold Hid
          omega
        go_wp2_with fail
        refine (wvalue_any w0.heap.size b Li 0 x hx1 hx2 _ HWL.out.1 HBR.out.size HLi.out).mono ?_
        rintro r w2 ⟨rfl, hs⟩
        have HN : Hid (∃ L2 e2, WL fVal sB 10 xs most w0 b L1 e1 w1 (i + 1) w2 L2 e2) := by
          rw [HXX.out] at hs
          exact HWL.out.step HX.out (by rw [HLn.out]; exact hnm) hs
        clear hs HWL HBR HLi HXX HX
        go_wp2
        go_roundw
        case rel => exact ⟨i + 1, by go_num, by omega, HN⟩
        case measure => simp [intOf]; omega
      · have hb0 : (ei == 0) = false := by rw [beq_eq_false_iff_ne]; exact h0
        have hn0 : (ei != 0) = true := by rw [bne, hb0]; rfl
        have HH0 : Hid (ei ≠ 0) := h0
        clear h0
        go_wp2
        refine bodyPost_ret (results_none rfl _ _ _) rfl ?_
        exact ⟨rfl, HWL.out.done (by rw [HLn.out]; exact hin) (Or.inl HH0.out) HO1.out.1 HO1.out.2 HB1.out hm hm0 (by decide) (by rw [HLn.out]) (by rw [HLn.out])⟩
    · have HE : Hid (i = xs.length) := by unfold Hid; rw [HLn.out]; omega
      go_wp2
      go_end0
      exact ⟨rfl, HWL.out.done (by rw [HLn.out]; exact hin) (Or.inr HE.out) HO1.out.1 HO1.out.2 HB1.out hm hm0 (by decide) (by rw [HLn.out]) (by rw [HLn.out])⟩
end Go.Proofs.Ytfmmefmpjejioaa
