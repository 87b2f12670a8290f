/-
  The reader of texts: a call, an image, a state.
-/
import Derived.Test.YtfmmefmpjejioaaSR2
import Derived.Test.YtfmmefmpjejioaaSRb
import Derived.Test.YtfmmefmpjejioaaSX
namespace Go.Proofs.Ytfmmefmpjejioaa
open Go.RowKit

theorem mSig_rng (B : Int) (hB : B = 32 ∨ B = 64) (l : List Int) (a : Int) (hl : Bts l) : -9223372036854775808 ≤ (mSig B l a).1 ∧ (mSig B l a).1 ≤ 9223372036854775807 := by
  unfold mSig
  rcases resS B hB l hl with ⟨e, he, hr⟩ | ⟨m, k, hm0, hm1, _, hk, hr⟩
  · rw [hr]
    split <;> exact ⟨by dsimp only; omega, by dsimp only; omega⟩
  · rw [hr]
    split
    · exact ⟨hm0, hm1⟩
    · exact ⟨by dsimp only; omega, by dsimp only; omega⟩
theorem mNum_rng (l : List Int) (a : Int) (hl : Bts l) : 0 ≤ (mNum l a).1 ∧ (mNum l a).1 ≤ 4294967295 := by
  have h1 := rU_bound 32 l hl
  have h2 := rU32_lt l hl
  unfold mNum
  split
  · exact ⟨h1.1, by dsimp only; omega⟩
  · exact ⟨by dsimp only; omega, by dsimp only; omega⟩
theorem wfK {n : Int} (h : -9223372036854775808 ≤ n ∧ n ≤ 9223372036854775807) : (Lit.int .i64 n).wf = true := by
  have h1 := h.1
  have h2 := h.2
  have a : IntKind.i64.min = -9223372036854775808 := by decide
  have b : IntKind.i64.max = 9223372036854775807 := by decide
  simp [Lit.wf, a, b]
  omega
/-- One of a list of numbers. -/
theorem one_place (P : Nat) (w : World) : ∀ l a w', w.heap.size ≤ w'.heap.size → RK w' P l a → Calls Try.prog 32 #[.pointer (some ⟨P, 0, none⟩)] w' fun r w'' => ∃ (d : Int) (v : Value) (l' : List Int) (a' : Int), r = .returned v ∧ v = .int .i64 d ∧ (fun (_ : World) (x : Int) => (Lit.int .i64 x).wf = true) w'' d ∧ RK w'' P l' a' ∧ Outc (rSgn 32) l a ((fun x : Int => x) d) l' a' ∧ Chg P w' w'' := by
  intro l a w' _ h
  refine (rplace_any P l a w' h).mono ?_
  rintro r w2 ⟨rfl, h1, c⟩
  exact ⟨_, _, _, _, rfl, rfl, wfK (mSig_rng 32 (Or.inl rfl) l a h.byte), h1, out_sgn 32 l a, c⟩
theorem one_value (P : Nat) (w : World) : ∀ l a w', w.heap.size ≤ w'.heap.size → RK w' P l a → Calls Try.prog 34 #[.pointer (some ⟨P, 0, none⟩)] w' fun r w'' => ∃ (d : Int) (v : Value) (l' : List Int) (a' : Int), r = .returned v ∧ v = .int .i64 d ∧ (fun (_ : World) (x : Int) => (Lit.int .i64 x).wf = true) w'' d ∧ RK w'' P l' a' ∧ Outc (rSgn 64) l a ((fun x : Int => x) d) l' a' ∧ Chg P w' w'' := by
  intro l a w' _ h
  refine (rvalue_any P l a w' h).mono ?_
  rintro r w2 ⟨rfl, h1, c⟩
  exact ⟨_, _, _, _, rfl, rfl, wfK (mSig_rng 64 (Or.inr rfl) l a h.byte), h1, out_sgn 64 l a, c⟩
theorem map_idK (L : List Int) : L.map (fun x : Int => x) = L := List.map_id' L
set_option maxHeartbeats 4000000 in
set_option maxRecDepth 1000000 in
theorem rcall_any (P : Nat) (l : List Int) (a : Int) (w : World) (h : RK w P l a) :
    Calls Try.prog 37 #[.pointer (some ⟨P, 0, none⟩)] w fun r w' => ∃ (d : CalD) (v : Value) (l' : List Int) (a' : Int), r = .returned v ∧ v = .agg #[.int .i64 d.f, .int .i64 d.a, .slice d.l.o d.l.n d.l.cap, .slice d.s.o d.s.n d.s.cap] ∧ CalG w' d ∧ RK w' P l' a' ∧ Outc rCal l a (CalD.val d) l' a' ∧ Chg P w w' := by
  have hPw := h.lt
  have bA : Below w.heap.size w (w.alloc (.cells #[.int .i64 0, .int .i64 0, .slice none 0 0, .slice none 0 0] 55)) := (Below.refl _ _).alloc (Nat.le_refl _) _
  have HB : Hid (RK (w.alloc (.cells #[.int .i64 0, .int .i64 0, .slice none 0 0, .slice none 0 0] 55)) P l a) := h.below bA
  have HC : Hid (Chg P w (w.alloc (.cells #[.int .i64 0, .int .i64 0, .slice none 0 0, .slice none 0 0] 55))) := Chg.of_below bA
  have xQ : Y4 55 (w.alloc (.cells #[.int .i64 0, .int .i64 0, .slice none 0 0, .slice none 0 0] 55)) w.heap.size (.int .i64 0) (.int .i64 0) (.slice none 0 0) (.slice none 0 0) := newY _ _ _
  have hQP : w.heap.size ≠ P := by omega
  clear bA h hPw
  go_enter Try.func37, Try.ntmps37
  go_wp2_with fail
  refine (rnumber_any P l a _ HB.out).mono ?_
  rintro r w1 ⟨rfl, h1, c1⟩
  have HO1 : Hid (type_of% (out_num l a)) := out_num l a
  have HG1 : Hid (type_of% (mNum_rng l a HB.out.byte)) := mNum_rng l a HB.out.byte
  generalize mNum l a = z1 at HO1 HG1 h1
  obtain ⟨f1, l1, a1⟩ := z1
  dsimp only at HO1 HG1 h1
  have xQ1 := xQ.chg c1 hQP
  have HB1 : Hid (RK w1 P l1 a1) := h1
  have HC1 : Hid (Chg P w w1) := HC.out.trans c1
  clear h1 c1 xQ HB HC
  go_wp2_with fail
  refine (rnumber_any P l1 a1 _ HB1.out).mono ?_
  rintro r w2 ⟨rfl, h1, c1⟩
  have HO2 : Hid (type_of% (out_num l1 a1)) := out_num l1 a1
  have HG2 : Hid (type_of% (mNum_rng l1 a1 HB1.out.byte)) := mNum_rng l1 a1 HB1.out.byte
  generalize mNum l1 a1 = z1 at HO2 HG2 h1
  obtain ⟨f2, l2, a2⟩ := z1
  dsimp only at HO2 HG2 h1
  have xQ2 := xQ1.chg c1 hQP
  have HB2 : Hid (RK w2 P l2 a2) := h1
  have HC2 : Hid (Chg P w w2) := HC1.out.trans c1
  clear h1 c1 xQ1 HB1 HC1
  go_wp2_with fail
  refine (rlist_i64 P 20 (by decide) (by decide) (rSgn 64) _ l2 a2 HB2.out (one_value P _)).mono ?_
  rintro r w3 ⟨o3, k3, L3, l3, a3, rfl, hL3, h1, ho, c1, _⟩
  rw [map_idK] at ho
  have HO3 : Hid (type_of% ho) := ho
  have HL3 : Hid (NumG .i64 2 w3 ⟨o3, L3.length, k3, L3⟩) := hL3.num
  have xQ3 := xQ2.chg c1 hQP
  have HB3 : Hid (RK w3 P l3 a3) := h1
  have HC3 : Hid (Chg P w w3) := HC2.out.trans c1
  clear h1 c1 xQ2 HB2 HC2 ho hL3
  go_wp2_with fail
  refine (rlist_i64 P 200 (by decide) (by decide) (rSgn 64) _ l3 a3 HB3.out (one_value P _)).mono ?_
  rintro r w4 ⟨o4, k4, L4, l4, a4, rfl, hL4, h1, ho, c1, _⟩
  rw [map_idK] at ho
  have HO4 : Hid (type_of% ho) := ho
  have HL4 : Hid (NumG .i64 2 w4 ⟨o4, L4.length, k4, L4⟩) := hL4.num
  have HL3b : Hid (NumG .i64 2 w4 ⟨o3, L3.length, k3, L3⟩) := HL3.out.kp (Kp.readerK HB3.out c1 (fun t => t != 41) (by decide)) (by decide)
  have xQ4 := xQ3.chg c1 hQP
  have HB4 : Hid (RK w4 P l4 a4) := h1
  have HC4 : Hid (Chg P w w4) := HC3.out.trans c1
  clear h1 c1 xQ3 HB3 HC3 ho hL4 HL3
  obtain ⟨R, hR⟩ : ∃ R, w.heap.size = R := ⟨_, rfl⟩
  rw [hR] at xQ4 hQP
  obtain ⟨y0, y1, y2, y3⟩ := xQ4.cell
  have g0 := xQ4.frozen 0
  have g1 := xQ4.frozen 1
  have g2 := xQ4.frozen 2
  have g3 := xQ4.frozen 3
  have HFX : Hid _ := (((xQ4.set0 (.int .i64 f1)).set1 (.int .i64 f2)).set2 (.slice o3 L3.length k3)).set3 (.slice o4 L4.length k4)
  have HQ : Hid _ := (((Chg.set R 0 w4 (.int .i64 f1)).trans (Chg.set R 1 _ (.int .i64 f2))).trans (Chg.set R 2 _ (.slice o3 L3.length k3))).trans (Chg.set R 3 _ (.slice o4 L4.length k4))
  have HXQ : Hid (type_of% xQ4) := xQ4
  clear xQ4
  go_wp2
  obtain ⟨q0, q1, q2, q3⟩ := Y4.cell HFX.out
  refine bodyPost_ret (v := .agg #[.int .i64 f1, .int .i64 f2, .slice o3 L3.length k3, .slice o4 L4.length k4]) (by simp [results, Try.results37, go_sem, q0, q1, q2, q3]) rfl ?_
  have kq : Kp (fun t => t != 55) w4 _ := Kp.chg HXQ.out HQ.out _ (by decide)
  refine ⟨⟨f1, f2, ⟨o3, L3.length, k3, L3⟩, ⟨o4, L4.length, k4, L4⟩⟩, _, l4, a4, rfl, rfl, ⟨?_, ?_, HL3b.out.kp kq (by decide), HL4.out.kp kq (by decide)⟩, HB4.out.kp kq (by decide), ?_, HC4.out.newK HQ.out (Nat.le_of_eq hR)⟩
  · have := HG1.out
    unfold inJ
    dsimp only
    omega
  · have := HG2.out
    unfold inJ
    dsimp only
    omega
  · exact HO1.out.pair (HO2.out.pair (HO3.out.pair HO4.out))
/-- An image in memory: its bytes, its table, its globals. -/
structure ImgD where
  m : ByteArray
  t : NumD
  g : NumD
def ImgD.val (d : ImgD) : ImgV := (nums d.m, d.t.xs, d.g.xs)
def ImgD.v (d : ImgD) : Value := .agg #[.string d.m, .slice d.t.o d.t.n d.t.cap, .slice d.g.o d.g.n d.g.cap]
def ImgG (w : World) (d : ImgD) : Prop := d.m.size ≤ maxLen ∧ NumG .i64 3 w d.t ∧ NumG .i64 2 w d.g
theorem ImgG.kp {w w' : World} {d : ImgD} {S : TypeId → Bool} (h : ImgG w d) (q : Kp S w w') (hS : S 3 = true) (hS2 : S 2 = true) : ImgG w' d := ⟨h.1, h.2.1.kp q hS, h.2.2.kp q hS2⟩
set_option maxHeartbeats 4000000 in
set_option maxRecDepth 1000000 in
theorem rimage_any (P : Nat) (l : List Int) (a : Int) (w : World) (h : RK w P l a) :
    Calls Try.prog 12 #[.pointer (some ⟨P, 0, none⟩)] w fun r w' => ∃ (d : ImgD) (l' : List Int) (a' : Int), r = .returned d.v ∧ ImgG w' d ∧ RK w' P l' a' ∧ Outc rImg l a d.val l' a' ∧ Chg P w w' := by
  have hPw := h.lt
  have bA : Below w.heap.size w (w.alloc (.cells #[.string ⟨#[]⟩, .slice none 0 0, .slice none 0 0] 25)) := (Below.refl _ _).alloc (Nat.le_refl _) _
  have HB : Hid (RK (w.alloc (.cells #[.string ⟨#[]⟩, .slice none 0 0, .slice none 0 0] 25)) P l a) := h.below bA
  have HC : Hid (Chg P w (w.alloc (.cells #[.string ⟨#[]⟩, .slice none 0 0, .slice none 0 0] 25))) := Chg.of_below bA
  have xQ : Y3 25 (w.alloc (.cells #[.string ⟨#[]⟩, .slice none 0 0, .slice none 0 0] 25)) w.heap.size (.string ⟨#[]⟩) (.slice none 0 0) (.slice none 0 0) := newY _ _ _
  have hQP : w.heap.size ≠ P := by omega
  obtain ⟨M, hM⟩ : ∃ M : Int, M = 2048 := ⟨_, rfl⟩
  have HM : Hid (M = 2048) := hM
  have hM2 : M ≤ 4294967295 := by omega
  clear bA h hPw hM
  go_enter Try.func12, Try.ntmps12
  go_wp2_with fail
  refine (rbytes_at P l a M HM hM2 _ HB.out).mono ?_
  rintro r w2 ⟨t2, l2, a2, rfl, ht2, h1, ho, c1⟩
  have HO2 : Hid (type_of% ho) := ho
  have HS2 : Hid (t2.size ≤ maxLen) := by unfold Hid maxLen; omega
  have xQ2 := xQ.chg c1 hQP
  have HB2 : Hid (RK w2 P l2 a2) := h1
  have HC2 : Hid (Chg P w w2) := HC.out.trans c1
  clear h1 c1 xQ HB HC ho ht2
  go_wp2_with fail
  refine (rlist_int P 16 (by decide) (by decide) (rSgn 32) _ l2 a2 HB2.out (one_place P _)).mono ?_
  rintro r w3 ⟨o3, k3, L3, l3, a3, rfl, hL3, h1, ho, c1, _⟩
  rw [map_idK] at ho
  have HO3 : Hid (type_of% ho) := ho
  have HL3 : Hid (NumG .i64 3 w3 ⟨o3, L3.length, k3, L3⟩) := hL3.num
  have xQ3 := xQ2.chg c1 hQP
  have HB3 : Hid (RK w3 P l3 a3) := h1
  have HC3 : Hid (Chg P w w3) := HC2.out.trans c1
  clear h1 c1 xQ2 HB2 HC2 ho hL3
  go_wp2_with fail
  refine (rlist_i64 P 8 (by decide) (by decide) (rSgn 64) _ l3 a3 HB3.out (one_value P _)).mono ?_
  rintro r w4 ⟨o4, k4, L4, l4, a4, rfl, hL4, h1, ho, c1, _⟩
  rw [map_idK] at ho
  have HO4 : Hid (type_of% ho) := ho
  have HL4 : Hid (NumG .i64 2 w4 ⟨o4, L4.length, k4, L4⟩) := hL4.num
  have HL3b : Hid (NumG .i64 3 w4 ⟨o3, L3.length, k3, L3⟩) := HL3.out.kp (Kp.readerK HB3.out c1 (fun t => t != 41) (by decide)) (by decide)
  have xQ4 := xQ3.chg c1 hQP
  have HB4 : Hid (RK w4 P l4 a4) := h1
  have HC4 : Hid (Chg P w w4) := HC3.out.trans c1
  clear h1 c1 xQ3 HB3 HC3 ho hL4 HL3
  obtain ⟨R, hR⟩ : ∃ R, w.heap.size = R := ⟨_, rfl⟩
  rw [hR] at xQ4 hQP
  obtain ⟨y0, y1, y2⟩ := xQ4.cell
  have g0 := xQ4.frozen 0
  have g1 := xQ4.frozen 1
  have g2 := xQ4.frozen 2
  have HFX : Hid _ := ((xQ4.set0 (.string t2)).set1 (.slice o3 L3.length k3)).set2 (.slice o4 L4.length k4)
  have HQ : Hid _ := ((Chg.set R 0 w4 (.string t2)).trans (Chg.set R 1 _ (.slice o3 L3.length k3))).trans (Chg.set R 2 _ (.slice o4 L4.length k4))
  have HXQ : Hid (type_of% xQ4) := xQ4
  have HOM : Hid (Outc rImg l a (nums t2, L3, L4) l4 a4) := by
    have h := HO2.out.pair (HO3.out.pair HO4.out)
    rw [HM.out] at h
    exact h
  clear xQ4 HM hM2 HO2 HO3 HO4
  go_wp2
  obtain ⟨q0, q1, q2⟩ := Y3.cell HFX.out
  refine bodyPost_ret (v := .agg #[.string t2, .slice o3 L3.length k3, .slice o4 L4.length k4]) (by simp [results, Try.results12, go_sem, q0, q1, q2]) rfl ?_
  have kq : Kp (fun t => t != 25) w4 _ := Kp.chg HXQ.out HQ.out _ (by decide)
  exact ⟨⟨t2, ⟨o3, L3.length, k3, L3⟩, ⟨o4, L4.length, k4, L4⟩⟩, l4, a4, rfl, ⟨HS2.out, HL3b.out.kp kq (by decide), HL4.out.kp kq (by decide)⟩, HB4.out.kp kq (by decide), HOM.out, HC4.out.newK HQ.out (Nat.le_of_eq hR)⟩
/-- A state in memory: its calls, its host. -/
structure StaD where
  o : Option Addr
  cap : Nat
  c : List CalD
  h : Int
def StaD.val (d : StaD) : StaV := (d.h, d.c.map CalD.val)
def StaD.v (d : StaD) : Value := .agg #[.slice d.o d.c.length d.cap, .int .i64 d.h]
/-- Its calls lie in a row of their own. -/
def StaG (B : Nat) (w : World) (d : StaD) : Prop := inJ d.h ∧ LR w B 55 4 CalD.cells CalG d.o d.c.length d.cap d.c
theorem StaG.kp {B : Nat} {w w' : World} {d : StaD} {S : TypeId → Bool} (h : StaG B w d) (q : Kp S w w') (hS : S 55 = true) (hS2 : S 2 = true) : StaG B w' d := ⟨h.1, h.2.kp q hS fun _ hd => hd.kp q hS2⟩
set_option maxHeartbeats 4000000 in
set_option maxRecDepth 1000000 in
theorem rstate_any (P : Nat) (l : List Int) (a : Int) (w : World) (h : RK w P l a) :
    Calls Try.prog 13 #[.pointer (some ⟨P, 0, none⟩)] w fun r w' => ∃ (d : StaD) (l' : List Int) (a' : Int), r = .returned d.v ∧ StaG w.heap.size w' d ∧ RK w' P l' a' ∧ Outc rSta l a d.val l' a' ∧ Chg P w w' := by
  have hPw := h.lt
  have bA : Below w.heap.size w (w.alloc (.cells #[.slice none 0 0, .int .i64 0] 28)) := (Below.refl _ _).alloc (Nat.le_refl _) _
  have HB : Hid (RK (w.alloc (.cells #[.slice none 0 0, .int .i64 0] 28)) P l a) := h.below bA
  have HC : Hid (Chg P w (w.alloc (.cells #[.slice none 0 0, .int .i64 0] 28))) := Chg.of_below bA
  have xQ : Y2 28 (w.alloc (.cells #[.slice none 0 0, .int .i64 0] 28)) w.heap.size (.slice none 0 0) (.int .i64 0) := newY _ _ _
  have hQP : w.heap.size ≠ P := by omega
  clear bA h hPw
  go_enter Try.func13, Try.ntmps13
  go_wp2_with fail
  refine (rnumber_any P l a _ HB.out).mono ?_
  rintro r w1 ⟨rfl, h1, c1⟩
  have HO1 : Hid (type_of% (out_num l a)) := out_num l a
  have HG1 : Hid (type_of% (mNum_rng l a HB.out.byte)) := mNum_rng l a HB.out.byte
  generalize mNum l a = z1 at HO1 HG1 h1
  obtain ⟨f1, l1, a1⟩ := z1
  dsimp only at HO1 HG1 h1
  have xQ1 := xQ.chg c1 hQP
  have HB1 : Hid (RK w1 P l1 a1) := h1
  have HC1 : Hid (Chg P w w1) := HC.out.trans c1
  clear h1 c1 xQ HB HC
  go_wp2_with fail
  refine (rlist_cal P 40 (by decide) (by decide) rCal _ l1 a1 HB1.out (fun l a w' _ h => rcall_any P l a w' h)).mono ?_
  rintro r w3 ⟨o3, k3, L3, l3, a3, rfl, hL3, h1, ho, c1, _⟩
  have HO3 : Hid (type_of% ho) := ho
  have HL3 : Hid (LR w3 w.heap.size 55 4 CalD.cells CalG o3 L3.length k3 L3) := ⟨ownsRow_down hL3.own HC1.out.size, hL3.len, hL3.ok⟩
  have xQ3 := xQ1.chg c1 hQP
  have HB3 : Hid (RK w3 P l3 a3) := h1
  have HC3 : Hid (Chg P w w3) := HC1.out.trans c1
  clear h1 c1 xQ1 HB1 HC1 ho hL3
  obtain ⟨R, hR⟩ : ∃ R, w.heap.size = R := ⟨_, rfl⟩
  rw [hR] at xQ3 hQP
  obtain ⟨y0, y1⟩ := xQ3.cell
  have g0 := xQ3.frozen 0
  have g1 := xQ3.frozen 1
  have HFX : Hid _ := (xQ3.set0 (.slice o3 L3.length k3)).set1 (.int .i64 f1)
  have HQ : Hid _ := (Chg.set R 0 w3 (.slice o3 L3.length k3)).trans (Chg.set R 1 _ (.int .i64 f1))
  have HXQ : Hid (type_of% xQ3) := xQ3
  clear xQ3
  go_wp2
  obtain ⟨q0, q1⟩ := Y2.cell HFX.out
  refine bodyPost_ret (v := .agg #[.slice o3 L3.length k3, .int .i64 f1]) (by simp [results, Try.results13, go_sem, q0, q1]) rfl ?_
  have kq : Kp (fun t => t != 28) w3 _ := Kp.chg HXQ.out HQ.out _ (by decide)
  refine ⟨⟨o3, k3, L3, f1⟩, l3, a3, rfl, ⟨?_, HL3.out.kp kq (by decide) fun _ hd => hd.kp kq (by decide)⟩, HB3.out.kp kq (by decide), HO1.out.pair HO3.out, HC3.out.newK HQ.out (Nat.le_of_eq hR)⟩
  have := HG1.out
  unfold inJ
  dsimp only
  omega
end Go.Proofs.Ytfmmefmpjejioaa
