/-
  The writer of texts: calls, images, states.
-/
import Derived.Test.YtfmmefmpjejioaaSW4
import Derived.Test.YtfmmefmpjejioaaSR3
namespace Go.Proofs.Ytfmmefmpjejioaa
open Go.RowKit

theorem nums_injK {s t : ByteArray} (h : nums s = nums t) : s = t := by
  have e : bsK (nums s) = bsK (nums t) := by rw [h]
  rw [bsK_nums, bsK_nums] at e
  exact ByteArray.ext (Array.toList_inj.1 e)
theorem bytes_injK {s t : ByteArray} (h : s.toList = t.toList) : s = t := by
  rw [ByteArray.toList_eq, ByteArray.toList_eq] at h
  obtain ⟨⟨x⟩⟩ := s
  obtain ⟨⟨y⟩⟩ := t
  simp at h
  rw [h]
theorem Y2.kp {T : TypeId} {w w' : World} {X : Nat} {c0 c1 : Value} {S : TypeId → Bool} (h : Y2 T w X c0 c1) (q : Kp S w w') (hS : S T = true) : Y2 T w' X c0 c1 := by
  unfold Y2 at h ⊢
  rw [q.blk _ _ _ _ h hS, h]
theorem Y3.kp {T : TypeId} {w w' : World} {X : Nat} {c0 c1 c2 : Value} {S : TypeId → Bool} (h : Y3 T w X c0 c1 c2) (q : Kp S w w') (hS : S T = true) : Y3 T w' X c0 c1 c2 := by
  unfold Y3 at h ⊢
  rw [q.blk _ _ _ _ h hS, h]
theorem Y4.kp {T : TypeId} {w w' : World} {X : Nat} {c0 c1 c2 c3 : Value} {S : TypeId → Bool} (h : Y4 T w X c0 c1 c2 c3) (q : Kp S w w') (hS : S T = true) : Y4 T w' X c0 c1 c2 c3 := by
  unfold Y4 at h ⊢
  rw [q.blk _ _ _ _ h hS, h]
/-- A call that was handed in. -/
def CalD.ok (w : World) (d : CalD) : Prop := inJ d.f ∧ inJ d.a ∧ d.l.ok .i64 w ∧ d.s.ok .i64 w
theorem CalD.ok.below {w w' : World} {d : CalD} (h : d.ok w) (b : Below w.heap.size w w') : d.ok w' := ⟨h.1, h.2.1, h.2.2.1.below b, h.2.2.2.below b⟩
theorem CalG.ok {w : World} {d : CalD} (h : CalG w d) : d.ok w := ⟨h.1, h.2.1, h.2.2.1.1, h.2.2.2.1⟩
set_option maxHeartbeats 4000000 in
set_option maxRecDepth 1000000 in
theorem wcall_any (w0 : World) (b : Nat) (d : CalD) (hd : d.ok w0) (L : List Int) (e : Int) (w : World) (h : WW w w0.heap.size b L e) (hb : Below w0.heap.size w0 w) (hl : L.length ≤ 50000000) :
    Calls Try.prog 54 #[.pointer (some ⟨b, 0, none⟩), .agg #[.int .i64 d.f, .int .i64 d.a, .slice d.l.o d.l.n d.l.cap, .slice d.s.o d.s.n d.s.cap]] w fun r w' => r = .returned (.tuple #[]) ∧ WS w w0.heap.size b (fCal d.val) (tCal d.val) L e 7000 w' := by
  obtain ⟨f1, a1, l1, s1⟩ := d
  obtain ⟨hf, ha, hdl, hds⟩ := hd
  dsimp only at hf ha hdl hds ⊢
  have HDL : Hid (type_of% hdl) := hdl
  have HDS : Hid (type_of% hds) := hds
  have HF : Hid (type_of% hf) := hf
  have HA : Hid (type_of% ha) := ha
  clear hdl hds hf ha
  have HLL : Hid (L.length ≤ 50000000) := hl
  have bA : Below w.heap.size w (w.alloc (.cells #[.int .i64 f1, .int .i64 a1, .slice l1.o l1.n l1.cap, .slice s1.o s1.n s1.cap] 55)) := (Below.refl _ _).alloc (Nat.le_refl _) _
  have HW0 : Hid (WW (w.alloc (.cells #[.int .i64 f1, .int .i64 a1, .slice l1.o l1.n l1.cap, .slice s1.o s1.n s1.cap] 55)) w0.heap.size b L e) := h.below bA
  have HB0 : Hid (BK w0.heap.size w (w.alloc (.cells #[.int .i64 f1, .int .i64 a1, .slice l1.o l1.n l1.cap, .slice s1.o s1.n s1.cap] 55))) := BK.new bA hb.size
  have HB : Hid (Below w0.heap.size w0 w) := hb
  have xQ0 : Y4 55 (w.alloc (.cells #[.int .i64 f1, .int .i64 a1, .slice l1.o l1.n l1.cap, .slice s1.o s1.n s1.cap] 55)) w.heap.size (.int .i64 f1) (.int .i64 a1) (.slice l1.o l1.n l1.cap) (.slice s1.o s1.n s1.cap) := newY _ _ _
  have HBS : Hid (w0.heap.size ≤ w.heap.size) := hb.size
  clear bA h hb hl
  go_enter Try.func54, Try.ntmps54
  go_wp2_with fail
  refine (wnumber_any w0.heap.size b L e f1 HF.out.1 HF.out.2 _ HW0.out (HB.out.trans HB0.out.b).size (by have := HLL.out; omega)).mono ?_
  rintro r w1 ⟨rfl, L1, e1, h1, o1, hl1, b1⟩
  have HW1 : Hid (WW w1 w0.heap.size b L1 e1) := h1
  have HO1 : Hid (type_of% o1) := o1
  have HL1 : Hid (L1.length ≤ L.length + 10) := hl1
  have HB1 : Hid (BK w0.heap.size w w1) := HB0.out.trans b1
  have xQ1 : Y4 55 w1 w.heap.size (.int .i64 f1) (.int .i64 a1) (.slice l1.o l1.n l1.cap) (.slice s1.o s1.n s1.cap) := xQ0.kp b1.k (by decide)
  obtain ⟨y0, y1, y2, y3⟩ := xQ1.cell
  clear h1 o1 hl1 b1 xQ0 HW0 HB0
  go_wp2_with fail
  refine (wnumber_any w0.heap.size b L1 e1 a1 HA.out.1 HA.out.2 _ HW1.out (HB.out.trans HB1.out.b).size (by have := HL1.out; have := HLL.out; omega)).mono ?_
  rintro r w2 ⟨rfl, L2, e2, h1, o1, hl1, b1⟩
  have HW2 : Hid (WW w2 w0.heap.size b L2 e2) := h1
  have HO2 : Hid (type_of% o1) := o1
  have HL2 : Hid (L2.length ≤ L1.length + 10) := hl1
  have HB2 : Hid (BK w0.heap.size w w2) := HB1.out.trans b1
  have xQ2 : Y4 55 w2 w.heap.size (.int .i64 f1) (.int .i64 a1) (.slice l1.o l1.n l1.cap) (.slice s1.o s1.n s1.cap) := xQ1.kp b1.k (by decide)
  clear y0 y1 y2 y3
  obtain ⟨y0, y1, y2, y3⟩ := xQ2.cell
  clear h1 o1 hl1 b1 xQ1 HW1 HB1
  go_wp2_with fail
  refine (wlist_i64 w0 b l1 L2 e2 20 (by decide) (by decide) HDL.out _ HW2.out (HB.out.trans HB2.out.b) (by have := HL1.out; have := HL2.out; have := HLL.out; omega)).mono ?_
  rintro r w3 ⟨rfl, L3, e3, h1, o1, hl1, b1⟩
  have HW3 : Hid (WW w3 w0.heap.size b L3 e3) := h1
  have HO3 : Hid (type_of% o1) := o1
  have HL3 : Hid (L3.length ≤ L2.length + 3000) := hl1
  have HB3 : Hid (BK w0.heap.size w w3) := HB2.out.trans b1
  have xQ3 : Y4 55 w3 w.heap.size (.int .i64 f1) (.int .i64 a1) (.slice l1.o l1.n l1.cap) (.slice s1.o s1.n s1.cap) := xQ2.kp b1.k (by decide)
  clear y0 y1 y2 y3
  obtain ⟨y0, y1, y2, y3⟩ := xQ3.cell
  clear h1 o1 hl1 b1 xQ2 HW2 HB2
  go_wp2_with fail
  refine (wlist_i64 w0 b s1 L3 e3 200 (by decide) (by decide) HDS.out _ HW3.out (HB.out.trans HB3.out.b) (by have := HL1.out; have := HL2.out; have := HL3.out; have := HLL.out; omega)).mono ?_
  rintro r w4 ⟨rfl, L4, e4, h1, o1, hl1, b1⟩
  have HW4 : Hid (WW w4 w0.heap.size b L4 e4) := h1
  have HO4 : Hid (type_of% o1) := o1
  have HL4 : Hid (L4.length ≤ L3.length + 3000) := hl1
  have HB4 : Hid (BK w0.heap.size w w4) := HB3.out.trans b1
  have xQ4 : Y4 55 w4 w.heap.size (.int .i64 f1) (.int .i64 a1) (.slice l1.o l1.n l1.cap) (.slice s1.o s1.n s1.cap) := xQ3.kp b1.k (by decide)
  clear y0 y1 y2 y3
  obtain ⟨y0, y1, y2, y3⟩ := xQ4.cell
  clear h1 o1 hl1 b1 xQ3 HW3 HB3
  go_wp2
  go_end0
  exact ⟨rfl, L4, e4, HW4.out, HO1.out.seq (HO2.out.seq (HO3.out.seq HO4.out)), by have := HL1.out; have := HL2.out; have := HL3.out; have := HL4.out; omega, HB4.out⟩
/-- A call of a list that was handed in before w0. -/
theorem cal_at {w0 wr : World} {o : Option Addr} {cap i : Nat} {M : List CalD} (hr : RowsOf w0 4 CalD.cells CalD.ok o cap M) (hi : i < M.length) (hb : Below w0.heap.size w0 wr) : ∃ (g f : Nat), o = some ⟨g, f, none⟩ ∧ g < w0.heap.size ∧ wr.cell? ⟨g, f + i * 4, none⟩ = some (.int .i64 (M[i]'hi).f) ∧ wr.cell? ⟨g, f + i * 4 + 1, none⟩ = some (.int .i64 (M[i]'hi).a) ∧ wr.cell? ⟨g, f + i * 4 + 2, none⟩ = some (.slice (M[i]'hi).l.o (M[i]'hi).l.n (M[i]'hi).l.cap) ∧ wr.cell? ⟨g, f + i * 4 + 3, none⟩ = some (.slice (M[i]'hi).s.o (M[i]'hi).s.n (M[i]'hi).s.cap) ∧ (M[i]'hi).ok w0 := by
  rcases hr.at' with h0 | ⟨g, f, h1, h2, h3⟩
  · rw [h0] at hi
    exact absurd hi (by simp)
  · refine ⟨g, f, h1, h2, ?_, ?_, ?_, ?_, hr.all _ (List.getElem_mem hi)⟩
    · rw [hb.cell (p := ⟨g, f + i * 4, none⟩) h2]
      exact h3 i hi 0 (by omega)
    · rw [hb.cell (p := ⟨g, f + i * 4 + 1, none⟩) h2]
      exact h3 i hi 1 (by omega)
    · rw [hb.cell (p := ⟨g, f + i * 4 + 2, none⟩) h2]
      exact h3 i hi 2 (by omega)
    · rw [hb.cell (p := ⟨g, f + i * 4 + 3, none⟩) h2]
      exact h3 i hi 3 (by omega)
set_option maxHeartbeats 4000000 in
set_option maxRecDepth 1000000 in
theorem wlist_cal (w0 : World) (b : Nat) (o : Option Addr) (cap : Nat) (M : List CalD) (L : List Int) (e most : Int) (hm0 : 0 ≤ most) (hm : most ≤ 200) (hr : RowsOf w0 4 CalD.cells CalD.ok o cap M) (w : World) (h : WW w w0.heap.size b L e) (hb : Below w0.heap.size w0 w) (hl : L.length ≤ 40000000) :
    Calls Try.prog 53 #[.pointer (some ⟨b, 0, none⟩), .slice o M.length cap, .int .i64 most, .func (.func 54) #[.pointer (some ⟨b, 0, none⟩)] #[]] w fun r w' => r = .returned (.tuple #[]) ∧ WS w w0.heap.size b (fList most fCal (M.map CalD.val)) (tList tCal (M.map CalD.val)) L e 1500000 w' := by
  have hcap := hr.le
  have hmx := hr.most
  unfold maxLen at hmx
  obtain ⟨n, hn⟩ : ∃ n, M.length = n := ⟨_, rfl⟩
  rw [hn] at hcap ⊢
  have HC : Hid (type_of% (wcount_any w0.heap.size b L e most n (by omega) hm0 (by omega) w h hb.size (by omega))) := wcount_any w0.heap.size b L e most n (by omega) hm0 (by omega) w h hb.size (by omega)
  have HD : Hid (RowsOf w0 4 CalD.cells CalD.ok o cap M) := hr
  have HB : Hid (Below w0.heap.size w0 w) := hb
  have HLn : Hid (M.length = n) := hn
  have HLm : Hid ((M.map CalD.val).length = n) := by unfold Hid; rw [List.length_map]; exact hn
  have HLL : Hid (L.length ≤ 40000000) := hl
  clear h hb hr hl hn
  go_enter Try.func53, Try.ntmps53
  go_wp2_with fail
  refine HC.out.mono ?_
  rintro r w1 ⟨rfl, L1, e1, h1, o1, hl1, b1⟩
  have HR1 : Hid (WW w1 w0.heap.size b L1 e1) := h1
  have HB1 : Hid (BK w0.heap.size w w1) := b1
  have HO1 : Hid (OutW (fCnt n most) (uB n) L e L1 e1 ∧ L1.length ≤ L.length + 10) := ⟨o1, hl1⟩
  have HZ : Hid (e1 = 0 → (n : Int) ≤ most) := by
    intro h0
    by_cases he : e = 0
    · by_cases hf : fCnt n most = 0
      · exact (fCnt_zero _ _).1 hf
      · have := (o1.2 he).1 hf
        rw [h0] at this
        exact absurd this.symm hf
    · have := o1.1 he
      rw [h0] at this
      exact absurd this.symm he
  clear h1 b1 o1 hl1 HC
  go_wp2
  go_loopw [17] (fun iv wr => ∃ i : Nat, iv = .int .i64 (i : Int) ∧ i ≤ n ∧ Hid (∃ Li ei, WL fCal tCal 7000 (M.map CalD.val) most w0 b L1 e1 w1 i wr Li ei)) (fun iv _ => n - (intOf iv).toNat)
  case atStart => exact ⟨0, rfl, by omega, L1, e1, WL.start HR1.out⟩
  case round =>
    obtain ⟨i, rfl, hin, HW⟩ := hrel
    obtain ⟨Li, ei, hwl⟩ := HW.out
    have HWL : Hid (WL fCal tCal 7000 (M.map CalD.val) most w0 b L1 e1 w1 i wr Li ei) := hwl
    have HBR : Hid (Below w0.heap.size w0 wr) := (HB.out.trans HB1.out.b).trans hwl.2.2.2.1.b
    have hc2 := hwl.1.c2
    have hbw := hwl.1.lt
    have hbw0 := hwl.1.1
    clear hwl HW HR1
    by_cases hlt : i < n
    · have hx : i < M.length := by rw [HLn.out]; exact hlt
      obtain ⟨g, f, ho, hg, q0, q1, q2, q3, hok⟩ := cal_at HD.out hx HBR.out
      subst ho
      have HX : Hid (i < M.length) := hx
      have HXV : Hid (∃ x, x = M[i]'hx) := ⟨_, rfl⟩
      obtain ⟨x, hxx⟩ := HXV.out
      have HXX : Hid (x = M[i]'HX.out) := hxx
      rw [← hxx] at q0 q1 q2 q3 hok
      have HOK : Hid (x.ok w0) := hok
      have hi0 : (0 : Int) ≤ (i : Int) := by omega
      have hi1 : (i : Int) < (n : Int) := by omega
      have hbs := HBR.out.size
      have hgn : g ≠ wr.heap.size := by omega
      have hbn : b ≠ wr.heap.size := by omega
      have hbn2 : wr.heap.size ≠ b := by omega
      have bA : Below wr.heap.size wr (wr.alloc (.cells #[.int .i64 x.f, .int .i64 x.a, .slice x.l.o x.l.n x.l.cap, .slice x.s.o x.s.n x.s.cap] 55)) := (Below.refl _ _).alloc (Nat.le_refl _) _
      clear hx hxx HXV hok
      by_cases h0 : ei = 0
      · subst h0
        have hnm := HZ.out (HWL.out.zero rfl)
        have HLi : Hid (Li.length ≤ 50000000) := by
          have := HWL.out.2.2.1
          have := HO1.out.2
          have := HLL.out
          unfold Hid
          omega
        have HWA : Hid (type_of% (HWL.out.below bA hbs)) := HWL.out.below bA hbs
        have HBA : Hid (type_of% (HBR.out.trans (bA.mono hbs))) := HBR.out.trans (bA.mono hbs)
        clear bA
        go_wp2_with fail
        refine (wcall_any w0 b x HOK.out Li 0 _ HWA.out.1 HBA.out HLi.out).mono ?_
        rintro r w2 ⟨rfl, hs⟩
        have HN : Hid (∃ L2 e2, WL fCal tCal 7000 (M.map CalD.val) most w0 b L1 e1 w1 (i + 1) w2 L2 e2) := by
          have hi : i < (M.map CalD.val).length := by rw [HLm.out]; exact hlt
          have ex : x.val = (M.map CalD.val)[i]'hi := by rw [List.getElem_map, HXX.out]
          rw [ex] at hs
          exact HWA.out.step hi (by rw [HLm.out]; exact hnm) hs
        clear hs HWL HBR HLi HXX HX HWA HBA HOK q0 q1 q2 q3
        go_wp2
        go_roundw
        case rel => exact ⟨i + 1, by go_num, by omega, HN⟩
        case measure => simp [intOf]; omega
      · have hb0 : (ei == 0) = false := by rw [beq_eq_false_iff_ne]; exact h0
        have hn0 : (ei != 0) = true := by rw [bne, hb0]; rfl
        have HH0 : Hid (ei ≠ 0) := h0
        have HWA : Hid (type_of% (HWL.out.below bA hbs)) := HWL.out.below bA hbs
        clear h0 bA
        go_wp2
        refine bodyPost_ret (results_none rfl _ _ _) rfl ?_
        exact ⟨rfl, HWA.out.done (by rw [HLm.out]; exact hin) (Or.inl HH0.out) HO1.out.1 HO1.out.2 HB1.out hm hm0 (by decide) (by rw [HLm.out]) (by rw [HLm.out])⟩
    · have HE : Hid (i = (M.map CalD.val).length) := by unfold Hid; rw [HLm.out]; omega
      go_wp2
      go_end0
      exact ⟨rfl, HWL.out.done (by rw [HLm.out]; exact hin) (Or.inr HE.out) HO1.out.1 HO1.out.2 HB1.out hm hm0 (by decide) (by rw [HLm.out]) (by rw [HLm.out])⟩
/-- An image, a state that were handed in. -/
def ImgD.ok (w : World) (d : ImgD) : Prop := d.m.size ≤ maxLen ∧ d.t.ok .i64 w ∧ d.g.ok .i64 w
theorem ImgD.ok.below {w w' : World} {d : ImgD} (h : d.ok w) (b : Below w.heap.size w w') : d.ok w' := ⟨h.1, h.2.1.below b, h.2.2.below b⟩
theorem ImgG.ok {w : World} {d : ImgD} (h : ImgG w d) : d.ok w := ⟨h.1, h.2.1.1, h.2.2.1⟩
def StaD.ok (w : World) (d : StaD) : Prop := inJ d.h ∧ RowsOf w 4 CalD.cells CalD.ok d.o d.cap d.c
theorem StaD.ok.below {w w' : World} {d : StaD} (h : d.ok w) (b : Below w.heap.size w w') : d.ok w' := ⟨h.1, h.2.below (fun _ hd => hd.below b) b⟩
theorem StaG.ok {B : Nat} {w : World} {d : StaD} (h : StaG B w d) : d.ok w := by
  have r := h.2.rows (fun _ => rfl)
  exact ⟨h.1, ⟨r.le, r.most, r.nil, fun d hd => (r.all d hd).ok, r.at'⟩⟩
set_option maxHeartbeats 4000000 in
set_option maxRecDepth 1000000 in
theorem wimage_any (w0 : World) (b : Nat) (d : ImgD) (M : Int) (HM : Hid (M = 2048)) (hd : d.ok w0) (L : List Int) (e : Int) (w : World) (h : WW w w0.heap.size b L e) (hb : Below w0.heap.size w0 w) (hl : L.length ≤ 50000000) :
    Calls Try.prog 27 #[.pointer (some ⟨b, 0, none⟩), d.v] w fun r w' => r = .returned (.tuple #[]) ∧ WS w w0.heap.size b (fImgP d.val) (tImg d.val) L e 17000 w' := by
  obtain ⟨m1, t1, g1⟩ := d
  obtain ⟨hm, hdt, hdg⟩ := hd
  dsimp only [ImgD.v] at hm hdt hdg ⊢
  have HDT : Hid (type_of% hdt) := hdt
  have HDG : Hid (type_of% hdg) := hdg
  have HMS : Hid (type_of% hm) := hm
  clear hdt hdg hm
  have HLL : Hid (L.length ≤ 50000000) := hl
  have bA : Below w.heap.size w (w.alloc (.cells #[.string m1, .slice t1.o t1.n t1.cap, .slice g1.o g1.n g1.cap] 25)) := (Below.refl _ _).alloc (Nat.le_refl _) _
  have HW0 : Hid (WW (w.alloc (.cells #[.string m1, .slice t1.o t1.n t1.cap, .slice g1.o g1.n g1.cap] 25)) w0.heap.size b L e) := h.below bA
  have HB0 : Hid (BK w0.heap.size w (w.alloc (.cells #[.string m1, .slice t1.o t1.n t1.cap, .slice g1.o g1.n g1.cap] 25))) := BK.new bA hb.size
  have HB : Hid (Below w0.heap.size w0 w) := hb
  have xQ0 : Y3 25 (w.alloc (.cells #[.string m1, .slice t1.o t1.n t1.cap, .slice g1.o g1.n g1.cap] 25)) w.heap.size (.string m1) (.slice t1.o t1.n t1.cap) (.slice g1.o g1.n g1.cap) := newY _ _ _
  have HBS : Hid (w0.heap.size ≤ w.heap.size) := hb.size
  clear bA h hb hl
  go_enter Try.func27, Try.ntmps27
  go_wp2_with fail
  refine (wbytes_any w0.heap.size b L e M HM m1 HMS.out _ HW0.out (HB.out.trans HB0.out.b).size (by have := HLL.out; omega)).mono ?_
  rintro r w1 ⟨rfl, L1, e1, h1, o1, hl1, b1⟩
  have HW1 : Hid (WW w1 w0.heap.size b L1 e1) := h1
  have HO1 : Hid (type_of% o1) := o1
  have HL1 : Hid (L1.length ≤ L.length + 10000) := hl1
  have HB1 : Hid (BK w0.heap.size w w1) := HB0.out.trans b1
  have xQ1 : Y3 25 w1 w.heap.size (.string m1) (.slice t1.o t1.n t1.cap) (.slice g1.o g1.n g1.cap) := xQ0.kp b1.k (by decide)
  obtain ⟨y0, y1, y2⟩ := xQ1.cell
  clear h1 o1 hl1 b1 xQ0 HW0 HB0
  go_wp2_with fail
  refine (wlist_int w0 b t1 L1 e1 16 (by decide) (by decide) HDT.out _ HW1.out (HB.out.trans HB1.out.b) (by have := HL1.out; have := HLL.out; omega)).mono ?_
  rintro r w2 ⟨rfl, L2, e2, h1, o1, hl1, b1⟩
  have HW2 : Hid (WW w2 w0.heap.size b L2 e2) := h1
  have HO2 : Hid (type_of% o1) := o1
  have HL2 : Hid (L2.length ≤ L1.length + 3000) := hl1
  have HB2 : Hid (BK w0.heap.size w w2) := HB1.out.trans b1
  have xQ2 : Y3 25 w2 w.heap.size (.string m1) (.slice t1.o t1.n t1.cap) (.slice g1.o g1.n g1.cap) := xQ1.kp b1.k (by decide)
  clear y0 y1 y2
  obtain ⟨y0, y1, y2⟩ := xQ2.cell
  clear h1 o1 hl1 b1 xQ1 HW1 HB1
  go_wp2_with fail
  refine (wlist_i64 w0 b g1 L2 e2 8 (by decide) (by decide) HDG.out _ HW2.out (HB.out.trans HB2.out.b) (by have := HL1.out; have := HL2.out; have := HLL.out; omega)).mono ?_
  rintro r w3 ⟨rfl, L3, e3, h1, o1, hl1, b1⟩
  have HW3 : Hid (WW w3 w0.heap.size b L3 e3) := h1
  have HO3 : Hid (type_of% o1) := o1
  have HL3 : Hid (L3.length ≤ L2.length + 3000) := hl1
  have HB3 : Hid (BK w0.heap.size w w3) := HB2.out.trans b1
  have xQ3 : Y3 25 w3 w.heap.size (.string m1) (.slice t1.o t1.n t1.cap) (.slice g1.o g1.n g1.cap) := xQ2.kp b1.k (by decide)
  clear y0 y1 y2
  obtain ⟨y0, y1, y2⟩ := xQ3.cell
  clear h1 o1 hl1 b1 xQ2 HW2 HB2
  go_wp2
  go_end0
  exact ⟨rfl, L3, e3, HW3.out, (by have k := HO1.out; rw [HM.out, ← nums_length] at k; exact k.seq (HO2.out.seq HO3.out)), by have := HL1.out; have := HL2.out; have := HL3.out; omega, HB3.out⟩
set_option maxHeartbeats 4000000 in
set_option maxRecDepth 1000000 in
theorem wstate_any (w0 : World) (b : Nat) (d : StaD) (hd : d.ok w0) (L : List Int) (e : Int) (w : World) (h : WW w w0.heap.size b L e) (hb : Below w0.heap.size w0 w) (hl : L.length ≤ 30000000) :
    Calls Try.prog 28 #[.pointer (some ⟨b, 0, none⟩), d.v] w fun r w' => r = .returned (.tuple #[]) ∧ WS w w0.heap.size b (fSta d.val) (tSta d.val) L e 1600000 w' := by
  obtain ⟨oo, kk, cc, nn⟩ := d
  obtain ⟨hh, hr⟩ := hd
  dsimp only [StaD.v] at hh hr ⊢
  have HR : Hid (type_of% hr) := hr
  have HH : Hid (type_of% hh) := hh
  clear hr hh
  have HLL : Hid (L.length ≤ 30000000) := hl
  have bA : Below w.heap.size w (w.alloc (.cells #[.slice oo cc.length kk, .int .i64 nn] 28)) := (Below.refl _ _).alloc (Nat.le_refl _) _
  have HW0 : Hid (WW (w.alloc (.cells #[.slice oo cc.length kk, .int .i64 nn] 28)) w0.heap.size b L e) := h.below bA
  have HB0 : Hid (BK w0.heap.size w (w.alloc (.cells #[.slice oo cc.length kk, .int .i64 nn] 28))) := BK.new bA hb.size
  have HB : Hid (Below w0.heap.size w0 w) := hb
  have xQ0 : Y2 28 (w.alloc (.cells #[.slice oo cc.length kk, .int .i64 nn] 28)) w.heap.size (.slice oo cc.length kk) (.int .i64 nn) := newY _ _ _
  have HBS : Hid (w0.heap.size ≤ w.heap.size) := hb.size
  clear bA h hb hl
  go_enter Try.func28, Try.ntmps28
  go_wp2_with fail
  refine (wnumber_any w0.heap.size b L e nn HH.out.1 HH.out.2 _ HW0.out (HB.out.trans HB0.out.b).size (by have := HLL.out; omega)).mono ?_
  rintro r w1 ⟨rfl, L1, e1, h1, o1, hl1, b1⟩
  have HW1 : Hid (WW w1 w0.heap.size b L1 e1) := h1
  have HO1 : Hid (type_of% o1) := o1
  have HL1 : Hid (L1.length ≤ L.length + 10) := hl1
  have HB1 : Hid (BK w0.heap.size w w1) := HB0.out.trans b1
  have xQ1 : Y2 28 w1 w.heap.size (.slice oo cc.length kk) (.int .i64 nn) := xQ0.kp b1.k (by decide)
  obtain ⟨y0, y1⟩ := xQ1.cell
  clear h1 o1 hl1 b1 xQ0 HW0 HB0
  go_wp2_with fail
  refine (wlist_cal w0 b oo kk cc L1 e1 40 (by decide) (by decide) HR.out _ HW1.out (HB.out.trans HB1.out.b) (by have := HL1.out; have := HLL.out; omega)).mono ?_
  rintro r w2 ⟨rfl, L2, e2, h1, o1, hl1, b1⟩
  have HW2 : Hid (WW w2 w0.heap.size b L2 e2) := h1
  have HO2 : Hid (type_of% o1) := o1
  have HL2 : Hid (L2.length ≤ L1.length + 1500000) := hl1
  have HB2 : Hid (BK w0.heap.size w w2) := HB1.out.trans b1
  have xQ2 : Y2 28 w2 w.heap.size (.slice oo cc.length kk) (.int .i64 nn) := xQ1.kp b1.k (by decide)
  clear y0 y1
  obtain ⟨y0, y1⟩ := xQ2.cell
  clear h1 o1 hl1 b1 xQ1 HW1 HB1
  go_wp2
  go_end0
  exact ⟨rfl, L2, e2, HW2.out, HO1.out.seq HO2.out, by have := HL1.out; have := HL2.out; omega, HB2.out⟩
end Go.Proofs.Ytfmmefmpjejioaa
