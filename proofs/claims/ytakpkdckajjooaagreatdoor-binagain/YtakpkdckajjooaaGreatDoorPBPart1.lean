/-
  The reader of modules: its parts.
-/
import Derived.Test.YtakpkdckajjooaaGreatDoorPBList
set_option maxHeartbeats 2000000
set_option maxRecDepth 1000000
namespace Go.Proofs.YtakpkdckajjooaaGreatDoor
set_option linter.unusedVariables false
open Go.RowKit
def X2 (T : TypeId) (w : World) (X : Nat) (c0 c1 : Value) : Prop := w.heap[X]? = some (.cells #[c0, c1] T (0, 0))
def X3 (T : TypeId) (w : World) (X : Nat) (c0 c1 c2 : Value) : Prop := w.heap[X]? = some (.cells #[c0, c1, c2] T (0, 0))
section
variable {T : TypeId} {w w' : World} {X P : Nat} {c0 c1 c2 : Value}
theorem X2.cell (h : X2 T w X c0 c1) : w.cell? ⟨X, 0, none⟩ = some c0 ∧ w.cell? ⟨X, 1, none⟩ = some c1 := by
  unfold X2 at h
  simp [World.cell?, h]
theorem X2.frozen (h : X2 T w X c0 c1) (i : Nat) : w.frozen? ⟨X, i, none⟩ = false := by
  unfold X2 at h
  simp [World.frozen?, h]
theorem X2.chg (h : X2 T w X c0 c1) (c : Chg P w w') (hX : X ≠ P) : X2 T w' X c0 c1 := by
  unfold X2 at h ⊢
  rw [c.block X (some_lt h) hX, h]
theorem X2.set0 (h : X2 T w X c0 c1) (v : Value) : X2 T (w.setCell ⟨X, 0, none⟩ v) X v c1 := by
  unfold X2 at h ⊢
  simp [World.setCell, Array.getElem?_modify, h]
theorem X2.set1 (h : X2 T w X c0 c1) (v : Value) : X2 T (w.setCell ⟨X, 1, none⟩ v) X c0 v := by
  unfold X2 at h ⊢
  simp [World.setCell, Array.getElem?_modify, h]
theorem X3.cell (h : X3 T w X c0 c1 c2) : w.cell? ⟨X, 0, none⟩ = some c0 ∧ w.cell? ⟨X, 1, none⟩ = some c1 ∧ w.cell? ⟨X, 2, none⟩ = some c2 := by
  unfold X3 at h
  simp [World.cell?, h]
theorem X3.frozen (h : X3 T w X c0 c1 c2) (i : Nat) : w.frozen? ⟨X, i, none⟩ = false := by
  unfold X3 at h
  simp [World.frozen?, h]
theorem X3.chg (h : X3 T w X c0 c1 c2) (c : Chg P w w') (hX : X ≠ P) : X3 T w' X c0 c1 c2 := by
  unfold X3 at h ⊢
  rw [c.block X (some_lt h) hX, h]
theorem X3.set0 (h : X3 T w X c0 c1 c2) (v : Value) : X3 T (w.setCell ⟨X, 0, none⟩ v) X v c1 c2 := by
  unfold X3 at h ⊢
  simp [World.setCell, Array.getElem?_modify, h]
theorem X3.set1 (h : X3 T w X c0 c1 c2) (v : Value) : X3 T (w.setCell ⟨X, 1, none⟩ v) X c0 v c2 := by
  unfold X3 at h ⊢
  simp [World.setCell, Array.getElem?_modify, h]
theorem X3.set2 (h : X3 T w X c0 c1 c2) (v : Value) : X3 T (w.setCell ⟨X, 2, none⟩ v) X c0 c1 v := by
  unfold X3 at h ⊢
  simp [World.setCell, Array.getElem?_modify, h]
theorem Chg.new {Q : Nat} {w1 w2 : World} (c : Chg P w w1) (q : Chg Q w1 w2) (hQ : w.heap.size ≤ Q) : Chg P w w2 :=
  ⟨q.os.trans c.os, q.tape.trans c.tape, q.output.trans c.output, Nat.le_trans c.size q.size, fun k hk hP => by
    rw [q.block k (Nat.lt_of_lt_of_le hk c.size) (by omega)]
    exact c.block k hk hP⟩
end
theorem rNum_isNum {l r : List Int} {n : Int} (hl : Bts l) (h : rNum l = .ok (n, r)) : isNum n := (cod_num.ok _ _ _ hl h).1
def NamD.val (d : NamD) : NamV := ⟨nums d.s, d.n⟩
def GloD.val (d : GloD) : GloV := ⟨d.k, d.m, d.s⟩
def DatD.val (d : DatD) : DatV := ⟨d.a, nums d.s⟩
def EleD.val (d : EleD) : EleV := ⟨d.a, d.f.xs⟩
def SigD.val (d : SigD) : SigV := ⟨d.i.xs, d.r.xs⟩
def FunD.cod (d : FunD) : CodV := ⟨d.l.xs, d.b.map InsD.val⟩
abbrev hsz (w : World) : Nat := w.heap.size
theorem wOf {N P : Nat} {w0 w w' : World} (h : Below N w0 w ∧ N ≤ hsz w) (c : Chg P w w') (hNP : N ≤ P) : Below N w0 w' ∧ N ≤ hsz w' := ⟨below_chg h.1 c hNP h.2, Nat.le_trans h.2 c.size⟩
theorem Out.imp {α : Type} {P : Nat} {V V' : α → World → Value → Prop} {x : Except Int (α × List Int)} {w w' : World} {r : Ending} (h : Out P V x w r w') (hi : ∀ a l v, x = .ok (a, l) → V a w' v → V' a w' v) : Out P V' x w r w' := by
  cases x with
  | error e => exact h
  | ok q =>
    obtain ⟨a, l⟩ := q
    obtain ⟨c, ⟨v, hr, hv⟩, hb⟩ := h
    exact ⟨c, ⟨v, hr, hi a l v rfl hv⟩, hb⟩
theorem wf_i64 {n : Int} (h : inI n) : (Lit.int .i64 n).wf = true := by
  have h1 := h.1
  have h2 := h.2
  have a : IntKind.i64.min = -9223372036854775808 := by decide
  have b : IntKind.i64.max = 9223372036854775807 := by decide
  simp [Lit.wf, a, b]
  omega
theorem wf_u8 {n : Int} (h1 : 0 ≤ n) (h2 : n ≤ 255) : (Lit.int .u8 n).wf = true := by
  have a : IntKind.u8.min = 0 := by decide
  have b : IntKind.u8.max = 255 := by decide
  simp [Lit.wf, a, b]
  omega
def vNam (a : NamV) (w : World) (v : Value) : Prop := ∃ d : NamD, v = .agg #[.string d.s, .int .i64 d.n] ∧ d.val = a ∧ NamD.ok w d
theorem inI_num {n : Int} (h : isNum n) : inI n := ⟨by have := h.1; omega, by have := h.2; omega⟩
theorem name_in {l r s : List Int} {T : ByteArray} (h : rName l = .ok (s, r)) (hT : nums T = s) : T.size ≤ maxLen := by
  obtain ⟨n, r1, h1, h2⟩ := nxt_ok h
  obtain ⟨p, r2, h3, h4⟩ := nxt_ok h2
  obtain ⟨_, r3, h5, h6⟩ := nxt_ok h4
  obtain ⟨_, rfl⟩ := need_ok h5
  simp only [ret, Except.ok.injEq, Prod.mk.injEq] at h6
  obtain ⟨rfl, rfl⟩ := h6
  obtain ⟨k, r4, h7, h8⟩ := nxt_ok h1
  obtain ⟨_, r5, h9, h10⟩ := nxt_ok h8
  obtain ⟨h11, rfl⟩ := need_ok h9
  simp only [ret, Except.ok.injEq, Prod.mk.injEq] at h10
  obtain ⟨rfl, rfl⟩ := h10
  have h11 := of_decide_eq_true h11
  unfold rPiece at h3
  split at h3
  · simp only [Except.ok.injEq, Prod.mk.injEq] at h3
    have := congrArg List.length hT
    rw [nums_length, ← h3.1, List.length_take] at this
    unfold maxLen
    omega
  · cases h3
theorem bexport (P : Nat) (l : List Int) (w : World) (h : BR w P l) (hA : Amb w) (hP4 : 4 ≤ P) :
    Calls Tryz.prog 154 #[.pointer (some ⟨P, 0, none⟩)] w (Out P vNam (rExp l) w) := by
  have hPw := h.lt
  have HA0 : Hid (type_of% hA) := hA
  clear hA
  have bA : Below w.heap.size w (w.alloc (.cells #[.string ⟨#[]⟩, .int .i64 0] 65)) := (Below.refl _ _).alloc (Nat.le_refl _) _
  have HB : Hid (BR (w.alloc (.cells #[.string ⟨#[]⟩, .int .i64 0] 65)) P l) := h.under bA
  have HC : Hid (Chg P w (w.alloc (.cells #[.string ⟨#[]⟩, .int .i64 0] 65))) := Chg.of_below bA
  have xQ : X2 65 (w.alloc (.cells #[.string ⟨#[]⟩, .int .i64 0] 65)) w.heap.size (.string ⟨#[]⟩) (.int .i64 0) := new_block _ _
  have hQP : w.heap.size ≠ P := by omega
  clear bA
  clear h
  have HA : Hid (Amb _) := HA0.out.chg HC.out hP4
  clear HA0
  go_enter Tryz.func154, Tryz.ntmps154
  go_wp2_with fail
  refine (bname P l _ HB.out HA.out).mono ?_
  intro r w1 ho
  rcases hx : rName l with x | ⟨s0, l1⟩
  · obtain ⟨c, rfl⟩ := ho.err hx
    exact ⟨rfl, Out.mkE (nxt_err hx) (HC.out.trans c)⟩
  obtain ⟨c, ⟨v, rfl, T1, hT1, rfl⟩, hb⟩ := ho.got hx
  have HX1 : Hid (rExp l = _) := nxt_of hx
  have HX : Hid (type_of% HX1.out) := HX1.out
  clear HX1
  have xQ1 := xQ.chg c hQP
  clear xQ
  have xQ := xQ1
  clear xQ1
  have HC1 : Hid (Chg P w w1) := HC.out.trans c
  clear HC
  have HC : Hid (Chg P w w1) := HC1.out
  clear HC1
  have HA1 : Hid (Amb w1) := HA.out.chg c hP4
  clear HA
  have HA : Hid (Amb w1) := HA1.out
  clear HA1
  clear HB
  have HB : Hid (BR w1 P l1) := hb
  clear hb ho
  have HT1 : Hid (nums T1 = s0) := hT1
  clear hT1
  have HK1 : Hid (type_of% hx) := hx
  clear hx c
  go_wp2_with fail
  refine (bfixed P l1 0 6 _ HB.out).mono ?_
  intro r w2 ho
  rcases hx : rFix 0 6 l1 with x | ⟨u0, l2⟩
  · obtain ⟨c, rfl⟩ := ho.err hx
    exact ⟨rfl, Out.mkE (HX.out.trans (nxt_err hx)) (HC.out.trans c)⟩
  obtain ⟨c, ⟨v, rfl, rfl⟩, hb⟩ := ho.got hx
  have HX1 : Hid (rExp l = _) := HX.out.trans (nxt_of hx)
  clear HX
  have HX : Hid (type_of% HX1.out) := HX1.out
  clear HX1
  have xQ1 := xQ.chg c hQP
  clear xQ
  have xQ := xQ1
  clear xQ1
  have HC1 : Hid (Chg P w w2) := HC.out.trans c
  clear HC
  have HC : Hid (Chg P w w2) := HC1.out
  clear HC1
  have HA1 : Hid (Amb w2) := HA.out.chg c hP4
  clear HA
  have HA : Hid (Amb w2) := HA1.out
  clear HA1
  clear HB
  have HB : Hid (BR w2 P l2) := hb
  clear hb ho
  have HK2 : Hid (type_of% hx) := hx
  clear hx c
  have HBY : Hid (Bts l2) := HB.out.byte
  go_wp2_with fail
  refine (bnumber P l2 _ HB.out).mono ?_
  intro r w3 ho
  rcases hx : rNum l2 with x | ⟨n0, l3⟩
  · obtain ⟨c, rfl⟩ := ho.err hx
    exact ⟨rfl, Out.mkE (HX.out.trans (nxt_err hx)) (HC.out.trans c)⟩
  obtain ⟨c, ⟨v, rfl, rfl⟩, hb⟩ := ho.got hx
  have HX1 : Hid (rExp l = _) := HX.out.trans (nxt_of hx)
  clear HX
  have HX : Hid (type_of% HX1.out) := HX1.out
  clear HX1
  have xQ1 := xQ.chg c hQP
  clear xQ
  have xQ := xQ1
  clear xQ1
  have HC1 : Hid (Chg P w w3) := HC.out.trans c
  clear HC
  have HC : Hid (Chg P w w3) := HC1.out
  clear HC1
  have HA1 : Hid (Amb w3) := HA.out.chg c hP4
  clear HA
  have HA : Hid (Amb w3) := HA1.out
  clear HA1
  clear HB
  have HB : Hid (BR w3 P l3) := hb
  clear hb ho
  have HK3 : Hid (type_of% hx) := hx
  clear hx c
  obtain ⟨R, hR⟩ : ∃ R, w.heap.size = R := ⟨_, rfl⟩
  rw [hR] at xQ hQP
  obtain ⟨y0, y1⟩ := xQ.cell
  have f0 := xQ.frozen 0
  have f1 := xQ.frozen 1
  have HFX : Hid _ := ((xQ.set0 (.string T1)).set1 (.int .i64 n0))
  have HQ : Hid _ := (Chg.set R 0 w3 (.string T1)).trans (Chg.set R 1 _ (.int .i64 n0))
  have HXQ : Hid (type_of% xQ) := xQ
  clear xQ
  go_wp2
  obtain ⟨q0, q1⟩ := X2.cell HFX.out
  refine bodyPost_ret (v := .agg #[.string T1, .int .i64 n0]) (by simp [results, Tryz.results154, go_sem, q0, q1]) rfl ?_
  have kq : Kp (fun t => t != 65) w3 _ := Kp.chg HXQ.out HQ.out _ (by decide)
  exact Out.mkO HX.out (HC.out.new HQ.out (Nat.le_of_eq hR)) ⟨⟨T1, n0⟩, rfl, by rw [← HT1.out]; rfl, name_in HK1.out HT1.out, inI_num (rNum_isNum HBY.out HK3.out)⟩ (HB.out.kp kq (by decide))
end Go.Proofs.YtakpkdckajjooaaGreatDoor
