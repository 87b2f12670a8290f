/-
 The program's own pass, by what instructions take and give.
 The program's own pass, whole, and step.
-/
import Derived.Test.YtlfihndbnaaodaaGreatDoorIVJ
set_option maxHeartbeats 4000000
set_option maxRecDepth 1000000
namespace Go.Proofs.YtlfihndbnaaodaaGreatDoor
open Go.RowKit
set_option linter.unusedVariables false
theorem pass_form {m : ModD} {loc st : List Int} {pre : List BlkV} {b : BlkV} {bad : Bool} {op a : Int} (h : op ≠ 26 ∧ op ≠ 27 ∧ op ≠ 5 ∧ op ≠ 11) : passV m loc st pre b bad op a = (fun S : List Int => fun B : Bool => if op = 2 ∨ op = 3 ∨ op = 4 then ⟨S, pre ++ [b] ++ [⟨op, ksOf a, S.length, false⟩], B⟩ else if op = 0 ∨ op = 12 ∨ op = 14 ∨ op = 15 then ⟨S.take b.base, pre ++ [{ b with dead := true }], B⟩ else ⟨S, pre ++ [b], B⟩) ((tksV b (effV m loc (pre ++ [b]) op a).1.reverse (st, bad)).1 ++ (effV m loc (pre ++ [b]) op a).2) (tksV b (effV m loc (pre ++ [b]) op a).1.reverse (st, bad)).2 := by
 have e : pass1 m loc st pre b bad op a = ⟨(tksV b (effV m loc (pre ++ [b]) op a).1.reverse (st, bad)).1 ++ (effV m loc (pre ++ [b]) op a).2, pre ++ [b], (tksV b (effV m loc (pre ++ [b]) op a).1.reverse (st, bad)).2⟩ := by
  unfold pass1
  rw [if_neg h.1, if_neg h.2.1, if_neg h.2.2.1, if_neg h.2.2.2]
 unfold passV
 rw [e]
theorem pass_rest (op : Int) (N P : Nat) (m : ModD) (L : NumD) (so : Option Addr) (sc : Nat) (g oc : Nat) (st : List Int) (ops : List BlkD) (bl : BlkD) (bad : Bool) (a b : Int) (xo : Option Addr) (n cap : Nat) (xs : List Int) (w : World) (h : TK w N P (trkM m L) so sc (some ⟨g, 0, none⟩) oc st (ops ++ [bl]) bad) (hs : st.length ≤ 1099511610000) (hbs : bl.base ≤ st.length) (hks : ∀ b ∈ ops ++ [bl], b.ks.n ≤ 10) (hno : ops.length ≤ 900) (w0 : World) (hw0 : w0.heap.size ≤ N) (hb0 : Below w0.heap.size w0 w) (hm : m.ok w0) (hc0 : mChk m = 0) (hc2 : typD m = 0) (hL : L.ok .u8 w) (hLk : ∀ x ∈ L.xs, 0 ≤ x ∧ x ≤ 255) (hTab : TabIn w) (hg : 1 < w.heap.size) (ha0 : (op : Int) ≤ 36 → 0 ≤ a) (ht : thereK m L.n (ops ++ [bl]).length op a xs = true) (ho0 : 0 ≤ op) (ho1 : op ≤ 255) (hop : op ≠ 26 ∧ op ≠ 27 ∧ op ≠ 5 ∧ op ≠ 11) (hkk : op = 2 ∨ op = 3 ∨ op = 4 → a ≤ 255) : Calls Tryz.prog 54 #[.pointer (some ⟨P, 0, none⟩), .agg #[.int .u8 op, .int .i64 a, .int .i64 b, .slice xo n cap]] w (PassOut N P (trkM m L) so (some ⟨g, 0, none⟩) w (ops ++ [bl]) (passV m L.xs st (ops.map BlkD.val) bl.val bad op a)) := by
 have HKK : Hid ((op = 2 ∨ op = 3 ∨ op = 4 → a ≤ 255) ∧ (op ≤ 36 → 0 ≤ a)) := ⟨hkk, ha0⟩
 have hpf := pass_form (m := m) (loc := L.xs) (st := st) (pre := ops.map BlkD.val) (b := bl.val) (bad := bad) (a := a) hop
 obtain ⟨TT, hTT⟩ : ∃ TT, TT = passV m L.xs st (ops.map BlkD.val) bl.val bad op a := ⟨_, rfl⟩
 rw [← hTT]
 rw [← hTT] at hpf
 have HTT : Hid (type_of% hpf) := hpf
 clear hTT hpf hkk
 obtain ⟨h26, h27, h5, h11⟩ := hop
 have b26 : (op == 26) = false := by simp [h26]
 have b27 : (op == 27) = false := by simp [h27]
 have b5 : (op == 5) = false := by simp [h5]
 have b11 : (op == 11) = false := by simp [h11]
 clear h26 h27 h5 h11
 have hb1 : Below w.heap.size w (w.alloc (.cells #[.int .u8 op, .int .i64 a, .int .i64 b, .slice xo n cap] 53)) := (Below.refl _ _).alloc (Nat.le_refl _) _
 have hT1 := h.below hb1
 have HF1 : Hid (TF P so (some ⟨g, 0, none⟩) w so (some ⟨g, 0, none⟩) (w.alloc (.cells #[.int .u8 op, .int .i64 a, .int .i64 b, .slice xo n cap] 53))) := TF.of_below _ _ hb1
 have hq := new_block w (.cells #[.int .u8 op, .int .i64 a, .int .i64 b, .slice xo n cap] 53)
 have hPw := h.lt
 have hsr : ∀ q : Addr, so = some q → q.block < w.heap.size := fun q e => by
  rcases h.stk.2 with ⟨h1, _⟩ | ⟨g', c, cur, h1, _, h3, _⟩
  ·simp only [Value.slice.injEq] at h1; rw [h1.1] at e; cases e
  ·simp only [Value.slice.injEq] at h1; rw [h1.1] at e; cases e; exact some_lt h3
 obtain ⟨g', hg', _, hgw, _, _, _⟩ := h.inner
 cases hg'
 have HX : Hid (∀ s1 o1 w', TF P so (some ⟨g, 0, none⟩) (w.alloc (.cells #[.int .u8 op, .int .i64 a, .int .i64 b, .slice xo n cap] 53)) s1 o1 w' → w'.cell? ⟨w.heap.size, 0, none⟩ = some (.int .u8 op) ∧ w'.cell? ⟨w.heap.size, 1, none⟩ = some (.int .i64 a)) := fun s1 o1 w' f => by
  have hk : w'.heap[w.heap.size]? = some (.cells #[.int .u8 op, .int .i64 a, .int .i64 b, .slice xo n cap] 53 (0, 0)) := (f.block _ (by simp) (by omega) (fun q e => by have := hsr q e; omega) (fun q e => by cases e; show w.heap.size ≠ g; omega)).trans hq
  exact ⟨cell_at hk 0 rfl, cell_at hk 1 rfl⟩
 have hv : (ops ++ [bl]).map BlkD.val = ops.map BlkD.val ++ [bl.val] := by simp
 have hbn : bl.ks.n ≤ 10 := hks bl (by simp)
 have hN : N ≤ w.heap.size := Nat.le_trans h.np (Nat.le_of_lt h.lt)
 have hbx : Below w0.heap.size w0 (w.alloc (.cells #[.int .u8 op, .int .i64 a, .int .i64 b, .slice xo n cap] 53)) := hb0.trans (hb1.mono hb0.size)
 have HC : Hid (type_of% (eff_any op N P m L so sc (some ⟨g, 0, none⟩) oc st (ops ++ [bl]) bad a b xo n cap xs (w.alloc (.cells #[.int .u8 op, .int .i64 a, .int .i64 b, .slice xo n cap] 53)) hT1 w0 hw0 hbx hm hc0 hc2 (hL.below hb1) hLk hks (by simp) ho0 ho1 (hTab.of_cells fun j => hb1.cell (p := ⟨1, j, none⟩) hg) (Nat.lt_of_lt_of_le hg hb1.size) ha0 ht)) := eff_any op N P m L so sc (some ⟨g, 0, none⟩) oc st (ops ++ [bl]) bad a b xo n cap xs (w.alloc (.cells #[.int .u8 op, .int .i64 a, .int .i64 b, .slice xo n cap] 53)) hT1 w0 hw0 hbx hm hc0 hc2 (hL.below hb1) hLk hks (by simp) ho0 ho1 (hTab.of_cells fun j => hb1.cell (p := ⟨1, j, none⟩) hg) (Nat.lt_of_lt_of_le hg hb1.size) ha0 ht
 rw [hv] at HC
 have HV : Hid (type_of% hv) := hv
 have HK : Hid (type_of% hks) := hks
 have HT1 : Hid (type_of% hT1) := hT1
 have HBB : Hid (bl.base ≤ st.length ∧ st.length ≤ 1099511610000 ∧ N ≤ w.heap.size ∧ bl.ks.n ≤ 10) := ⟨hbs, hs, hN, hbn⟩
 generalize effV m L.xs (ops.map BlkD.val ++ [bl.val]) op a = ef at HC HTT
 obtain ⟨t1, g1⟩ := ef
 dsimp only at *
 have HTL' : Hid (type_of% (tksV_base (b := bl.val) t1.reverse (s := (st, bad)) hbs)) := tksV_base (b := bl.val) t1.reverse (s := (st, bad)) hbs
 have HQE : Hid (∀ q, q = tksV bl.val t1.reverse (st, bad) → tksV bl.val t1.reverse (st, bad) = q) := fun _ e => e.symm
 obtain ⟨q, hqe⟩ : ∃ q, q = tksV bl.val t1.reverse (st, bad) := ⟨_, rfl⟩
 have HQ2 : Hid (tksV bl.val t1.reverse (st, bad) = q) := hqe.symm
 rw [← hqe] at HTL' HTT
 clear hqe HQE
 obtain ⟨s3, b3⟩ := q
 dsimp only at *
 clear ha0 h hb1 hT1 hq hks hv hsr hgw hbx hb0 hm hw0 hc0 hc2 hL hLk hTab ht hbs hs hN hbn
 unfold PassOut
 go_enter Tryz.func54, Tryz.ntmps54
 go_wp2_with fail
 refine HC.out.mono ?_
 rintro r w2 ⟨d1, d2, rfl, e1, e2, b2⟩
 have HT2 : Hid (TK w2 N P (trkM m L) so sc (some ⟨g, 0, none⟩) oc st (ops ++ [bl]) bad) := HT1.out.below b2
 have HF2 : Hid (TF P so (some ⟨g, 0, none⟩) (w.alloc (.cells #[.int .u8 op, .int .i64 a, .int .i64 b, .slice xo n cap] 53)) so (some ⟨g, 0, none⟩) w2) := TF.of_below _ _ b2
 have HTA : Hid (type_of% (vtakeAll N P (trkM m L) so sc g oc st ops bl bad d1 w2 HT2.out e1.ok e1.off.rec (Nat.le_trans e1.few (by omega)) (Nat.le_trans HBB.out.2.1 (by omega)) (Nat.le_trans HBB.out.1 (Nat.le_trans HBB.out.2.1 (by omega))))) := vtakeAll N P (trkM m L) so sc g oc st ops bl bad d1 w2 HT2.out e1.ok e1.off.rec (Nat.le_trans e1.few (by omega)) (Nat.le_trans HBB.out.2.1 (by omega)) (Nat.le_trans HBB.out.1 (Nat.le_trans HBB.out.2.1 (by omega)))
 rw [e1.xs, tks_val] at HTA
 have HE2 : Hid (type_of% e2) := e2
 rw [HQ2.out] at HTA
 clear HC b2 e1 e2 HT1
 go_wp2_with fail
 refine HTA.out.mono ?_
 rintro r w3 ⟨rfl, h3, c3⟩
 have HT3 : Hid (type_of% h3) := h3
 have HF3 : Hid (TF P so (some ⟨g, 0, none⟩) (w.alloc (.cells #[.int .u8 op, .int .i64 a, .int .i64 b, .slice xo n cap] 53)) so (some ⟨g, 0, none⟩) w3) := HF2.out.trans (TF.chg _ _ c3)
 have HGI : Hid (type_of% (vgive N P (trkM m L) so sc (some ⟨g, 0, none⟩) oc s3 (ops ++ [bl]) b3 d2 w3 h3 (HE2.out.ok.chg c3 HE2.out.off.rec) (Nat.le_trans HE2.out.few (by omega)) (Nat.le_trans HTL'.out.2 (Nat.le_trans HBB.out.2.1 (by show (1099511610000 : Nat) ≤ _; omega))) (Nat.le_trans h3.np (Nat.le_of_lt h3.lt)))) := vgive N P (trkM m L) so sc (some ⟨g, 0, none⟩) oc s3 (ops ++ [bl]) b3 d2 w3 h3 (HE2.out.ok.chg c3 HE2.out.off.rec) (Nat.le_trans HE2.out.few (by omega)) (Nat.le_trans HTL'.out.2 (Nat.le_trans HBB.out.2.1 (by show (1099511610000 : Nat) ≤ _; omega))) (Nat.le_trans h3.np (Nat.le_of_lt h3.lt))
 rw [HE2.out.xs] at HGI
 have HDF : Hid (d2.xs = g1 ∧ d2.xs.length = d2.n ∧ d2.n ≤ 20) := ⟨HE2.out.xs, HE2.out.ok.len, HE2.out.few⟩
 clear h3 c3 HTA HF2 HT2 HE2
 go_wp2_with fail
 refine HGI.out.mono ?_
 rintro r w4 ⟨rfl, so', sc', h4, f4⟩
 have HT4 : Hid (type_of% h4) := h4
 have HF4 : Hid (TF P so (some ⟨g, 0, none⟩) (w.alloc (.cells #[.int .u8 op, .int .i64 a, .int .i64 b, .slice xo n cap] 53)) so' (some ⟨g, 0, none⟩) w4) := HF3.out.trans f4
 obtain ⟨x0, x1⟩ := HX.out _ _ w4 HF4.out
 have HF5 : Hid (TF P so (some ⟨g, 0, none⟩) w so' (some ⟨g, 0, none⟩) w4) := HF1.out.trans HF4.out
 have HLN : Hid ((s3 ++ g1).length ≤ 1099511620000 ∧ bl.base ≤ (s3 ++ g1).length) := by
  have a1 := HTL'.out
  have a2 := HBB.out.2.1
  have a3 := HDF.out
  rw [a3.1] at a3
  have a4 : bl.val.base = bl.base := rfl
  unfold Hid
  rw [List.length_append]
  try dsimp only at a1
  omega
 clear h4 f4 HGI HF3 HT3 HF4 HX HF1 HTL' HDF
 by_cases cE : op = 2 ∨ op = 3 ∨ op = 4
 ·have hk0 := HKK.out.2 (by omega)
  have hk1 := HKK.out.1 cE
  have e : TT = ⟨s3 ++ g1, ops.map BlkD.val ++ [bl.val] ++ [⟨op, ksOf a, (s3 ++ g1).length, false⟩], b3⟩ := HTT.out.trans (if_pos cE)
  clear HTT HKK b26 b27 b5 b11
  have HTE : Hid (type_of% e) := e
  clear e
  cases m2 : (op == 2) <;> cases m3 : (op == 3) <;> cases m4 : (op == 4)
  all_goals try (exfalso; simp only [beq_iff_eq, beq_eq_false_iff_ne] at m2 m3 m4; omega)
  all_goals
   clear cE
   have HEN : Hid (type_of% (venter N P (trkM m L) so' sc' (some ⟨g, 0, none⟩) oc (s3 ++ g1) (ops ++ [bl]) b3 op a hk0 hk1 w4 HT4.out (Nat.le_trans HLN.out.1 (by omega)) (by simp; omega) (Nat.le_trans HT4.out.np (Nat.le_of_lt HT4.out.lt)))) := venter N P (trkM m L) so' sc' (some ⟨g, 0, none⟩) oc (s3 ++ g1) (ops ++ [bl]) b3 op a hk0 hk1 w4 HT4.out (Nat.le_trans HLN.out.1 (by omega)) (by simp; omega) (Nat.le_trans HT4.out.np (Nat.le_of_lt HT4.out.lt))
   have hwr : IntKind.u8.wrap a = a := by rw [IntKind.wrap_u8]; omega
   go_wp2_with fail
   refine HEN.out.mono ?_
   rintro r w5 ⟨rfl, d, hdx, hdn, hdf, g5, c5, h5, f5⟩
   have HDFR : Hid (d.n = 0 ∨ ∃ a : Addr, d.o = some a ∧ w.heap.size ≤ a.block) := hdf.imp id (fun ⟨a, h1, h2⟩ => ⟨a, h1, Nat.le_trans HF5.out.size h2⟩)
   have HT5 : Hid (type_of% h5) := h5
   have HF6 : Hid (TF P so (some ⟨g, 0, none⟩) w so' (some ⟨g5, 0, none⟩) w5) := HF5.out.trans f5
   have HV5 : Hid ((ops ++ [bl] ++ [(⟨op, d, (s3 ++ g1).length, false⟩ : BlkD)]).map BlkD.val = ops.map BlkD.val ++ [bl.val] ++ [⟨op, ksOf a, (s3 ++ g1).length, false⟩]) := by
    unfold Hid
    rw [List.map_append, HV.out]
    simp [BlkD.val, hdx]
   have HK5 : Hid (∀ b ∈ ops ++ [bl] ++ [(⟨op, d, (s3 ++ g1).length, false⟩ : BlkD)], b.ks.n ≤ 10) := fun x hx => by
    rcases List.mem_append.1 hx with hx | hx
    ·exact HK.out x hx
    ·rw [List.mem_singleton] at hx; rw [hx]; show d.n ≤ 10; omega
   clear h5 f5 HEN hdx hdn hdf
   go_wp2
   go_end0
   have e := HTE.out
   subst e
   exact ⟨rfl, _, _, _, _, _, HT5.out, HF6.out, HV5.out, HK5.out, fun G hG h b hb => by
    rcases List.mem_append.1 hb with q | q
    ·exact h b q
    ·rw [List.mem_singleton] at q; rw [q]; exact HDFR.out.imp id (fun ⟨a, h1, h2⟩ => ⟨a, h1, by omega⟩)⟩
 by_cases cD : op = 0 ∨ op = 12 ∨ op = 14 ∨ op = 15
 ·have e : TT = ⟨(s3 ++ g1).take bl.base, ops.map BlkD.val ++ [{ bl.val with dead := true }], b3⟩ := HTT.out.trans ((if_neg cE).trans (if_pos cD))
  have m2 : (op == 2) = false := by rw [beq_eq_false_iff_ne]; omega
  have m3 : (op == 3) = false := by rw [beq_eq_false_iff_ne]; omega
  have m4 : (op == 4) = false := by rw [beq_eq_false_iff_ne]; omega
  clear HTT HKK b26 b27 b5 b11 cE
  have HTE : Hid (type_of% e) := e
  clear e
  cases m0 : (op == 0) <;> cases m12 : (op == 12) <;> cases m14 : (op == 14) <;> cases m15 : (op == 15)
  all_goals try (exfalso; simp only [beq_iff_eq, beq_eq_false_iff_ne] at m0 m12 m14 m15; omega)
  all_goals
   clear cD
   have HDI : Hid (type_of% (vdie N P (trkM m L) so' sc' g oc (s3 ++ g1) ops bl b3 w4 HT4.out HLN.out.2)) := vdie N P (trkM m L) so' sc' g oc (s3 ++ g1) ops bl b3 w4 HT4.out HLN.out.2
   go_wp2_with fail
   refine HDI.out.mono ?_
   rintro r w5 ⟨rfl, h5, f5⟩
   have HT5 : Hid (type_of% h5) := h5
   have HF6 : Hid (TF P so (some ⟨g, 0, none⟩) w so' (some ⟨g, 0, none⟩) w5) := HF5.out.trans f5
   have HV5 : Hid ((ops ++ [{ bl with dead := true }]).map BlkD.val = ops.map BlkD.val ++ [{ bl.val with dead := true }]) := by unfold Hid; simp [BlkD.val]
   have HK5 : Hid (∀ b ∈ ops ++ [{ bl with dead := true }], b.ks.n ≤ 10) := fun x hx => by
    rcases List.mem_append.1 hx with hx | hx
    ·exact HK.out x (by simp [hx])
    ·rw [List.mem_singleton] at hx; rw [hx]; exact HBB.out.2.2.2
   clear h5 f5 HDI
   go_wp2
   go_end0
   have e := HTE.out
   subst e
   exact ⟨rfl, _, _, _, _, _, HT5.out, HF6.out, HV5.out, HK5.out, fun G _ h b hb => by
    rcases List.mem_append.1 hb with q | q
    ·exact h b (by simp [q])
    ·rw [List.mem_singleton] at q; rw [q]; exact h bl (by simp)⟩
 have e : TT = ⟨s3 ++ g1, ops.map BlkD.val ++ [bl.val], b3⟩ := HTT.out.trans ((if_neg cE).trans (if_neg cD))
 have HTE : Hid (type_of% e) := e
 clear e
 have m2 : (op == 2) = false := by rw [beq_eq_false_iff_ne]; omega
 have m3 : (op == 3) = false := by rw [beq_eq_false_iff_ne]; omega
 have m4 : (op == 4) = false := by rw [beq_eq_false_iff_ne]; omega
 have m0 : (op == 0) = false := by rw [beq_eq_false_iff_ne]; omega
 have m12 : (op == 12) = false := by rw [beq_eq_false_iff_ne]; omega
 have m14 : (op == 14) = false := by rw [beq_eq_false_iff_ne]; omega
 have m15 : (op == 15) = false := by rw [beq_eq_false_iff_ne]; omega
 clear cE cD HTT HKK
 go_wp2
 go_end0
 have e := HTE.out
 subst e
 exact ⟨rfl, _, _, _, _, _, HT4.out, HF5.out, HV.out, HK.out, fun _ _ h => h⟩
end Go.Proofs.YtlfihndbnaaodaaGreatDoor
namespace Go.Proofs.YtlfihndbnaaodaaGreatDoor
open Go.RowKit
set_option linter.unusedVariables false
theorem pass_any (op : Int) (N P : Nat) (m : ModD) (L : NumD) (so : Option Addr) (sc : Nat) (g oc : Nat) (st : List Int) (ops : List BlkD) (bl : BlkD) (bad : Bool) (a b : Int) (xo : Option Addr) (n cap : Nat) (xs : List Int) (w : World) (h : TK w N P (trkM m L) so sc (some ⟨g, 0, none⟩) oc st (ops ++ [bl]) bad) (hs : st.length ≤ 1099511610000) (hbs : bl.base ≤ st.length) (hks : ∀ b ∈ ops ++ [bl], b.ks.n ≤ 10) (hno : ops.length ≤ 900) (w0 : World) (hw0 : w0.heap.size ≤ N) (hb0 : Below w0.heap.size w0 w) (hm : m.ok w0) (hc0 : mChk m = 0) (hc2 : typD m = 0) (hL : L.ok .u8 w) (hLk : ∀ x ∈ L.xs, 0 ≤ x ∧ x ≤ 255) (hTab : TabIn w) (hg : 1 < w.heap.size) (ha0 : (op : Int) ≤ 36 → 0 ≤ a) (ht : thereK m L.n (ops ++ [bl]).length op a xs = true) (ho0 : 0 ≤ op) (ho1 : op ≤ 255) (hkk : op = 2 ∨ op = 3 ∨ op = 4 → a ≤ 255) : Calls Tryz.prog 54 #[.pointer (some ⟨P, 0, none⟩), .agg #[.int .u8 op, .int .i64 a, .int .i64 b, .slice xo n cap]] w (PassOut N P (trkM m L) so (some ⟨g, 0, none⟩) w (ops ++ [bl]) ((passV m L.xs st (ops.map BlkD.val) bl.val bad op a))) := by
 by_cases hop : op ≠ 26 ∧ op ≠ 27 ∧ op ≠ 5 ∧ op ≠ 11
 ·exact pass_rest op N P m L so sc g oc st ops bl bad a b xo n cap xs w h hs hbs hks hno w0 hw0 hb0 hm hc0 hc2 hL hLk hTab hg ha0 ht ho0 ho1 hop hkk
 unfold passV
 rw [if_neg (by omega), if_neg (by omega)]
 unfold pass1
 by_cases c26 : op = 26
 ·rw [if_pos c26]; subst c26; exact pass_26 N P m L so sc g oc st ops bl bad a b xo n cap xs w h hs hbs hks hno
 rw [if_neg c26]
 by_cases c27 : op = 27
 ·rw [if_pos c27]; subst c27; exact pass_27 N P m L so sc g oc st ops bl bad a b xo n cap xs w h hs hbs hks hno
 rw [if_neg c27]
 by_cases c5 : op = 5
 ·rw [if_pos c5]; subst c5; exact pass_5 N P m L so sc g oc st ops bl bad a b xo n cap xs w h hs hbs hks hno
 rw [if_neg c5]
 by_cases c11 : op = 11
 ·rw [if_pos c11]
  subst c11
  by_cases c4 : bl.op = 4
  ·rw [if_pos (show bl.val.op = 4 from c4)]
   exact pass_11_if N P m L so sc g oc st ops bl bad a b xo n cap xs w h hs hbs hks hno c4
  ·rw [if_neg (show ¬ bl.val.op = 4 from c4)]
   exact pass_11_other N P m L so sc g oc st ops bl bad a b xo n cap xs w h hs hbs hks hno c4
 exact absurd ⟨c26, c27, c5, c11⟩ hop
def allowedV (m : ModD) (ops : List BlkV) (op a : Int) (xs : List Int) : Bool :=
 if op = 36 then (m.globals[a.toNat]?).any (fun d => d.m) else if op = 14 then !(xs.any fun f => !(alV ops f == alV ops a)) else true
theorem allowed_val (m : ModD) (ops : List BlkD) (op a : Int) (xs : List Int) : allowedK m ops op a xs = allowedV m (ops.map BlkD.val) op a xs := by
 unfold allowedK allowedV
 simp only [alAt_val]
theorem few_glob {m : ModD} (h : mChk m = 0) : m.globals.length ≤ 8 := by
 unfold mChk at h
 obtain ⟨_, h⟩ := fstE_eq0 h
 obtain ⟨_, h⟩ := fstE_eq0 h
 obtain ⟨_, h⟩ := fstE_eq0 h
 obtain ⟨_, h⟩ := fstE_eq0 h
 obtain ⟨_, h⟩ := fstE_eq0 h
 obtain ⟨_, h⟩ := fstE_eq0 h
 obtain ⟨_, h⟩ := fstE_eq0 h
 obtain ⟨h8, h⟩ := fstE_eq0 h
 have a8 := chkL_eq0 h8
 omega
def stepV (m : ModD) (loc : List Int) (st : List Int) (pre : List BlkV) (b : BlkV) (bad : Bool) (op a : Int) (xs : List Int) : Int × TrkV :=
 if thereK m loc.length (pre.length + 1) op a xs = false then (8, ⟨[], [], false⟩)
 else if skewK op a = true then (9, ⟨[], [], false⟩)
 else if (passV m loc st pre b (bad || !allowedV m (pre ++ [b]) op a xs) op a).bad = true then (10, ⟨[], [], false⟩)
 else (0, passV m loc st pre b (bad || !allowedV m (pre ++ [b]) op a xs) op a)
def StepOut (N P : Nat) (M : Nat → Value) (so oo : Option Addr) (w : World) (ops0 : List BlkD) (E : Int) (T : TrkV) (r : Ending) (w' : World) : Prop :=
 r = .returned (.int .i64 E) ∧ Below N w w' ∧ (E = 0 → ∃ (so' : Option Addr) (sc' : Nat) (oo' : Option Addr) (oc' : Nat) (ops' : List BlkD), TK w' N P M so' sc' oo' oc' T.st ops' T.bad ∧ TF P so oo w so' oo' w' ∧ ops'.map BlkD.val = T.ops ∧ (∀ b ∈ ops', b.ks.n ≤ 10) ∧ KeepB w ops0 ops')
theorem TK.rows {w : World} {N P : Nat} {M : Nat → Value} {so : Option Addr} {sc : Nat} {oo : Option Addr} {oc : Nat} {st : List Int} {ops : List BlkD} {bad : Bool} (h : TK w N P M so sc oo oc st ops bad) : (∀ q : Addr, so = some q → N ≤ q.block ∧ q.block < w.heap.size) ∧ ∀ q : Addr, oo = some q → N ≤ q.block ∧ q.block < w.heap.size := by
 constructor
 ·intro q e
  rcases h.stk.2 with ⟨h1, _⟩ | ⟨g', c, cur, h1, h2, h3, _⟩
  ·simp only [Value.slice.injEq] at h1; rw [h1.1] at e; cases e
  ·simp only [Value.slice.injEq] at h1; rw [h1.1] at e; cases e; exact ⟨h2, some_lt h3⟩
 ·intro q e
  rcases h.opn.2 with ⟨h1, _⟩ | ⟨g', c, cur, h1, h2, h3, _⟩
  ·simp only [Value.slice.injEq] at h1; rw [h1.1] at e; cases e
  ·simp only [Value.slice.injEq] at h1; rw [h1.1] at e; cases e; exact ⟨h2, some_lt h3⟩
theorem vstep (op : Int) (N P : Nat) (m : ModD) (L : NumD) (so : Option Addr) (sc : Nat) (g oc : Nat) (st : List Int) (ops : List BlkD) (bl : BlkD) (bad : Bool) (a b : Int) (xo : Option Addr) (n cap : Nat) (xs : List Int) (w : World) (h : TK w N P (trkM m L) so sc (some ⟨g, 0, none⟩) oc st (ops ++ [bl]) bad) (hs : st.length ≤ 1099511610000) (hbs : bl.base ≤ st.length) (hks : ∀ b ∈ ops ++ [bl], b.ks.n ≤ 10) (hno : ops.length ≤ 900) (w0 : World) (hw0 : w0.heap.size ≤ N) (hb0 : Below w0.heap.size w0 w) (hm : m.ok w0) (hc0 : mChk m = 0) (hc2 : typD m = 0) (hL : L.ok .u8 w) (hLo : offRow P so (some ⟨g, 0, none⟩) L) (hLk : ∀ x ∈ L.xs, 0 ≤ x ∧ x ≤ 255) (hTab : TabIn w) (hg : 1 < w0.heap.size) (ha0 : op ≤ 36 → 0 ≤ a) (hx0 : ∀ x ∈ xs, 0 ≤ x) (hl : xs.length = n) (hcap : n ≤ cap) (hcm : cap ≤ 9223372036854775807) (hat : LJ1 w0 xo xs) (ho0 : 0 ≤ op) (ho1 : op ≤ 255) (hkk : op = 2 ∨ op = 3 ∨ op = 4 → a ≤ 255) :
  Calls Tryz.prog 27 #[.pointer (some ⟨P, 0, none⟩), .agg #[.int .u8 op, .int .i64 a, .int .i64 b, .slice xo n cap]] w (StepOut N P (trkM m L) so (some ⟨g, 0, none⟩) w (ops ++ [bl]) (stepV m L.xs st (ops.map BlkD.val) bl.val bad op a xs).1 (stepV m L.xs st (ops.map BlkD.val) bl.val bad op a xs).2) := by
 have gf := fair_of hm hc0
 have hb1 : Below w.heap.size w (w.alloc (.cells #[.int .u8 op, .int .i64 a, .int .i64 b, .slice xo n cap] 53)) := (Below.refl _ _).alloc (Nat.le_refl _) _
 have hT1 := h.below hb1
 have HF1 : Hid (TF P so (some ⟨g, 0, none⟩) w so (some ⟨g, 0, none⟩) (w.alloc (.cells #[.int .u8 op, .int .i64 a, .int .i64 b, .slice xo n cap] 53))) := TF.of_below _ _ hb1
 have hq := new_block w (.cells #[.int .u8 op, .int .i64 a, .int .i64 b, .slice xo n cap] 53)
 have hPw := h.lt
 have hrw := h.rows
 have hN : N ≤ w.heap.size := Nat.le_trans h.np (Nat.le_of_lt h.lt)
 have hbx : Below w0.heap.size w0 (w.alloc (.cells #[.int .u8 op, .int .i64 a, .int .i64 b, .slice xo n cap] 53)) := hb0.trans (hb1.mono hb0.size)
 have HX : Hid (∀ s1 o1 w', TF P so (some ⟨g, 0, none⟩) (w.alloc (.cells #[.int .u8 op, .int .i64 a, .int .i64 b, .slice xo n cap] 53)) s1 o1 w' → w'.cell? ⟨w.heap.size, 0, none⟩ = some (.int .u8 op) ∧ w'.cell? ⟨w.heap.size, 1, none⟩ = some (.int .i64 a) ∧ w'.cell? ⟨w.heap.size, 2, none⟩ = some (.int .i64 b) ∧ w'.cell? ⟨w.heap.size, 3, none⟩ = some (.slice xo n cap)) := fun s1 o1 w' f => by
  have hk : w'.heap[w.heap.size]? = some (.cells #[.int .u8 op, .int .i64 a, .int .i64 b, .slice xo n cap] 53 (0, 0)) := (f.block _ (by simp) (by omega) (fun q e => by have := hrw.1 q e; omega) (fun q e => by have := hrw.2 q e; omega)).trans hq
  exact ⟨cell_at hk 0 rfl, cell_at hk 1 rfl, cell_at hk 2 rfl, cell_at hk 3 rfl⟩
 have HBN : Hid (∀ s1 o1 w', TF P so (some ⟨g, 0, none⟩) (w.alloc (.cells #[.int .u8 op, .int .i64 a, .int .i64 b, .slice xo n cap] 53)) s1 o1 w' → Below N w w') := fun s1 o1 w' f => (HF1.out.trans f).below h.np (fun q e => (hrw.1 q e).1) (fun q e => (hrw.2 q e).1) hN
 have hlx : L.xs.length = L.n := hL.len
 have hgl := gf.nT
 have hgl4 : m.globals.length ≤ 16 := by have := few_glob hc0; omega
 have HTH : Hid (type_of% (there_any op N P m L so sc (some ⟨g, 0, none⟩) oc st (ops ++ [bl]) bad a b xo n cap xs (w.alloc (.cells #[.int .u8 op, .int .i64 a, .int .i64 b, .slice xo n cap] 53)) hT1 ⟨gf.nT, gf.nI, gf.nF, hgl4⟩ hl hcap hcm (hat.below hbx) ha0)) := there_any op N P m L so sc (some ⟨g, 0, none⟩) oc st (ops ++ [bl]) bad a b xo n cap xs (w.alloc (.cells #[.int .u8 op, .int .i64 a, .int .i64 b, .slice xo n cap] 53)) hT1 ⟨gf.nT, gf.nI, gf.nF, hgl4⟩ hl hcap hcm (hat.below hbx) ha0
 have hlo : (ops ++ [bl]).length = ops.length + 1 := by simp
 have hlv : (ops.map BlkD.val).length + 1 = ops.length + 1 := by simp
 have hvv : (ops ++ [bl]).map BlkD.val = ops.map BlkD.val ++ [bl.val] := by simp
 rw [hlo] at HTH
 unfold stepV
 rw [hlv, hlx]
 have HSK : Hid (∀ w', Below (w.alloc (.cells #[.int .u8 op, .int .i64 a, .int .i64 b, .slice xo n cap] 53)).heap.size (w.alloc (.cells #[.int .u8 op, .int .i64 a, .int .i64 b, .slice xo n cap] 53)) w' → Calls Tryz.prog 51 #[.agg #[.int .u8 op, .int .i64 a, .int .i64 b, .slice xo n cap]] w' fun r w'' => r = .returned (.bool (skewK op a)) ∧ Below w'.heap.size w' w'') := fun w' bz => vskew op a b xo n cap w' (hTab.of_cells fun j => ((hb1.trans (bz.mono hb1.size)).cell (p := ⟨1, j, none⟩) (Nat.lt_of_lt_of_le hg hb0.size))) (Nat.lt_of_lt_of_le hg (Nat.le_trans hbx.size bz.size))
 have HAL : Hid (thereK m L.n (ops.length + 1) op a xs = true → ∀ w', Below (w.alloc (.cells #[.int .u8 op, .int .i64 a, .int .i64 b, .slice xo n cap] 53)).heap.size (w.alloc (.cells #[.int .u8 op, .int .i64 a, .int .i64 b, .slice xo n cap] 53)) w' → Calls Tryz.prog 53 #[.pointer (some ⟨P, 0, none⟩), .agg #[.int .u8 op, .int .i64 a, .int .i64 b, .slice xo n cap]] w' fun r w'' => r = .returned (.bool (allowedV m (ops.map BlkD.val ++ [bl.val]) op a xs)) ∧ Below w'.heap.size w' w'') := fun ht w' bz => by
  have hbz := hbx.trans (bz.mono hbx.size)
  have : Calls Tryz.prog 53 #[.pointer (some ⟨P, 0, none⟩), .agg #[.int .u8 op, .int .i64 a, .int .i64 b, .slice xo n cap]] w' fun r w'' => r = .returned (.bool (allowedK m (ops ++ [bl]) op a xs)) ∧ Below w'.heap.size w' w'' := by
   by_cases h36 : op ≤ 36
   ·exact allowed_any op N P m L so sc (some ⟨g, 0, none⟩) oc st (ops ++ [bl]) bad a b xo n cap xs w' (hT1.below bz) ((hm.below hbz).globals) hl hcap hcm (hat.below hbz) (ha0 h36) hx0 (by rw [hlo]; exact ht)
   ·unfold allowedK
    rw [if_neg (by omega), if_neg (by omega)]
    exact allowed_other op N P m L so sc (some ⟨g, 0, none⟩) oc st (ops ++ [bl]) bad a b xo n cap xs w' (hT1.below bz) (by omega) (by omega)
  rw [allowed_val, hvv] at this
  exact this
 have HND : Hid (∀ w', Below (w.alloc (.cells #[.int .u8 op, .int .i64 a, .int .i64 b, .slice xo n cap] 53)).heap.size (w.alloc (.cells #[.int .u8 op, .int .i64 a, .int .i64 b, .slice xo n cap] 53)) w' → ∀ hb, Calls Tryz.prog 52 #[.pointer (some ⟨P, 0, none⟩), .bool hb] w' fun r w'' => r = .returned (.tuple #[]) ∧ TK w'' N P (trkM m L) so sc (some ⟨g, 0, none⟩) oc st (ops ++ [bl]) (bad || !hb) ∧ Chg P w' w'') := fun w' bz hb => vneed N P (trkM m L) so sc _ oc st (ops ++ [bl]) bad hb w' (hT1.below bz)
 have HPS : Hid (thereK m L.n (ops.length + 1) op a xs = true → ∀ w', TF P so (some ⟨g, 0, none⟩) (w.alloc (.cells #[.int .u8 op, .int .i64 a, .int .i64 b, .slice xo n cap] 53)) so (some ⟨g, 0, none⟩) w' → TK w' N P (trkM m L) so sc (some ⟨g, 0, none⟩) oc st (ops ++ [bl]) (bad || !allowedV m (ops.map BlkD.val ++ [bl.val]) op a xs) → Calls Tryz.prog 54 #[.pointer (some ⟨P, 0, none⟩), .agg #[.int .u8 op, .int .i64 a, .int .i64 b, .slice xo n cap]] w' (PassOut N P (trkM m L) so (some ⟨g, 0, none⟩) w' (ops ++ [bl]) (passV m L.xs st (ops.map BlkD.val) bl.val (bad || !allowedV m (ops.map BlkD.val ++ [bl.val]) op a xs) op a))) := fun ht w' f hT => by
  have hbn : Below N w w' := (HF1.out.trans f).below h.np (fun q e => (hrw.1 q e).1) (fun q e => (hrw.2 q e).1) hN
  have hbz : Below w0.heap.size w0 w' := hb0.trans (hbn.mono hw0)
  exact pass_any op N P m L so sc g oc st ops bl _ a b xo n cap xs w' hT hs hbs hks hno w0 hw0 hbz hm hc0 hc2 (hL.tf (HF1.out.trans f) hLo) hLk (hTab.of_cells fun j => hbn.cell (p := ⟨1, j, none⟩) (Nat.lt_of_lt_of_le hg hw0)) (Nat.lt_of_lt_of_le hg hbz.size) ha0 (by rw [hlo]; exact ht) ho0 ho1 hkk
 have HBv : Hid (Below w.heap.size w (w.alloc (.cells #[.int .u8 op, .int .i64 a, .int .i64 b, .slice xo n cap] 53))) := hb1
 generalize thereK m L.n (ops.length + 1) op a xs = th at *
 generalize skewK op a = sk at *
 generalize allowedV m (ops.map BlkD.val ++ [bl.val]) op a xs = al at *
 generalize passV m L.xs st (ops.map BlkD.val) bl.val (bad || !al) op a = T at HPS ⊢
 have HXS : Hid ((w.alloc (.cells #[.int .u8 op, .int .i64 a, .int .i64 b, .slice xo n cap] 53)).heap.size = w.heap.size + 1) := by unfold Hid; simp
 clear h hb1 hT1 hq hrw hN hbx hlx hgl hgl4 hlo hlv hvv hat hl hx0 gf hb0 hm hw0 hc0 hc2 hL hLo hLk hTab hkk hks
 unfold StepOut
 cases th with
 | false =>
  rw [if_pos rfl]
  clear HSK HAL HND HPS
  go_enter Tryz.func27, Tryz.ntmps27
  go_wp2_with fail
  refine HTH.out.mono ?_
  rintro r w1 ⟨rfl, b1⟩
  have HBF : Hid (Below N w w1) := HBN.out _ _ w1 (TF.of_below _ _ b1)
  clear b1 HTH
  go_wp2
  refine bodyPost_ret (results_tmp rfl _ _ _) rfl ?_
  exact ⟨rfl, HBF.out, fun h => absurd h (by decide)⟩
 | true =>
  rw [if_neg (by simp)]
  obtain ⟨v, hv⟩ : ∃ v, v = (w.alloc (.cells #[.int .u8 op, .int .i64 a, .int .i64 b, .slice xo n cap] 53)) := ⟨_, rfl⟩
  have HV : Hid (v = (w.alloc (.cells #[.int .u8 op, .int .i64 a, .int .i64 b, .slice xo n cap] 53))) := hv
  rw [← hv] at HX HBN HSK HAL HND HPS HTH HXS HBv HF1
  clear hv
  have HAL2 := HAL.out rfl
  have HPS2 := HPS.out rfl
  have HALx : Hid (type_of% HAL2) := HAL2
  have HPSx : Hid (type_of% HPS2) := HPS2
  clear HAL HPS HAL2 HPS2
  cases sk with
  | true =>
   rw [if_pos rfl]
   clear HND HALx HPSx
   go_enter Tryz.func27, Tryz.ntmps27
   go_wp2_with fail
   rw [← HV.out]
   refine HTH.out.mono ?_
   rintro r w1 ⟨rfl, b1⟩
   obtain ⟨x0, x1, x2, x3⟩ := HX.out _ _ w1 (TF.of_below _ _ b1)
   have HB1 : Hid (type_of% b1) := b1
   clear b1 HTH
   go_wp2_with fail
   refine (HSK.out w1 HB1.out).mono ?_
   rintro r w2 ⟨rfl, b2⟩
   have HBF : Hid (Below N w w2) := HBN.out _ _ w2 (TF.of_below _ _ (HB1.out.trans (b2.mono HB1.out.size)))
   clear b2 HSK x0 x1 x2 x3
   go_wp2
   refine bodyPost_ret (results_tmp rfl _ _ _) rfl ?_
   exact ⟨rfl, HBF.out, fun h => absurd h (by decide)⟩
  | false =>
   rw [if_neg (by simp)]
   rcases hTb : T.bad with _ | _
   all_goals
    have HTb : Hid (type_of% hTb) := hTb
    clear hTb
    go_enter Tryz.func27, Tryz.ntmps27
    go_wp2_with fail
    rw [← HV.out]
    refine HTH.out.mono ?_
    rintro r w1 ⟨rfl, b1⟩
    obtain ⟨x0, x1, x2, x3⟩ := HX.out _ _ w1 (TF.of_below _ _ b1)
    have HB1 : Hid (type_of% b1) := b1
    clear b1 HTH
    go_wp2_with fail
    refine (HSK.out w1 HB1.out).mono ?_
    rintro r w2 ⟨rfl, b2⟩
    have HB2 : Hid (Below v.heap.size v w2) := HB1.out.trans (b2.mono HB1.out.size)
    clear b2 HSK x0 x1 x2 x3 HB1
    obtain ⟨x0, x1, x2, x3⟩ := HX.out _ _ w2 (TF.of_below _ _ HB2.out)
    go_wp2_with fail
    refine (HALx.out w2 HB2.out).mono ?_
    rintro r w3 ⟨rfl, b3⟩
    have HB3 : Hid (Below v.heap.size v w3) := HB2.out.trans (b3.mono HB2.out.size)
    clear b3 HALx x0 x1 x2 x3 HB2
    go_wp2_with fail
    refine (HND.out w3 HB3.out al).mono ?_
    rintro r w4 ⟨rfl, h4, c4⟩
    have hf4 : TF P so (some ⟨g, 0, none⟩) v so (some ⟨g, 0, none⟩) w4 := (TF.of_below _ _ HB3.out).trans (TF.chg _ _ c4)
    obtain ⟨x0, x1, x2, x3⟩ := HX.out _ _ w4 hf4
    have HP4 : Hid (type_of% (HPSx.out w4 hf4 h4)) := HPSx.out w4 hf4 h4
    have HF4 : Hid (type_of% hf4) := hf4
    clear h4 c4 hf4 HND HB3
    go_wp2_with fail
    refine HP4.out.mono ?_
    rintro r w5 ⟨rfl, so', sc', oo', oc', ops', h5, f5, hv5, hk5⟩
    have c14 := h5.c14
    rw [HTb.out] at c14
    have HBF : Hid (Below N w w5) := HBN.out _ _ w5 (HF4.out.trans f5)
    have HFin : Hid (TK w5 N P (trkM m L) so' sc' oo' oc' T.st ops' T.bad ∧ TF P so (some ⟨g, 0, none⟩) w so' oo' w5 ∧ ops'.map BlkD.val = T.ops ∧ (∀ b ∈ ops', b.ks.n ≤ 10) ∧ KeepB w (ops ++ [bl]) ops') := ⟨h5, HF1.out.trans (HF4.out.trans f5), hv5, hk5.1, fun G hG => hk5.2 G (Nat.lt_of_lt_of_le hG (HF1.out.trans HF4.out).size)⟩
    clear h5 f5 hv5 hk5 HP4 x0 x1 x2 x3
    go_wp2
    refine bodyPost_ret (results_tmp rfl _ _ _) rfl ?_
   ·exact ⟨rfl, HBF.out, so', sc', oo', oc', ops', HFin.out⟩
   ·exact ⟨rfl, HBF.out⟩
end Go.Proofs.YtlfihndbnaaodaaGreatDoor
