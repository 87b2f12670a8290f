/-
  The reader of modules: its parts.
-/
import Derived.Test.YtakpkdckajjooaaGreatDoorPBPart1
import Derived.Test.YtakpkdckajjooaaGreatDoorPQM
import Derived.WalkLawsBesides
set_option maxHeartbeats 2000000
set_option maxRecDepth 1000000
namespace Go.Proofs.YtakpkdckajjooaaGreatDoor
set_option linter.unusedVariables false
open Go.RowKit
theorem host_str (T : ByteArray) (s : List Int) (h : nums T = s) : (T.toList == [104, 111, 115, 116]) = (s == host) := by
  subst h
  rw [Lib.toList_data]
  rw [Bool.eq_iff_iff, beq_iff_eq, beq_iff_eq]
  constructor
  · intro h
    unfold nums
    rw [h]
    rfl
  · intro h
    rw [← txt_nums T, h]
    rfl
theorem constOf_any (k : Int) (w : World) : Calls Tryz.prog 129 #[.int .u8 k] w fun r w' => r = .returned (.int .u8 (cst k)) ∧ w' = w := by
  unfold cst
  by_cases h : k = 126
  · subst h
    go_enter Tryz.func129, Tryz.ntmps129
    go_wp2
    go_ret
    exact ⟨rfl, rfl⟩
  · have hb : (k == 126) = false := by rw [beq_eq_false_iff_ne]; exact h
    rw [if_neg h]
    go_enter Tryz.func129, Tryz.ntmps129
    go_wp2
    go_ret
    exact ⟨rfl, rfl⟩
theorem bitsOf_any (k : Int) (w : World) : Calls Tryz.prog 188 #[.int .u8 k] w fun r w' => r = .returned (.int .i64 (bts k)) ∧ w' = w := by
  unfold bts
  by_cases h : k = 126
  · subst h
    go_enter Tryz.func188, Tryz.ntmps188
    go_wp2
    go_ret
    exact ⟨rfl, rfl⟩
  · have hb : (k == 126) = false := by rw [beq_eq_false_iff_ne]; exact h
    rw [if_neg h]
    go_enter Tryz.func188, Tryz.ntmps188
    go_wp2
    go_ret
    exact ⟨rfl, rfl⟩
theorem one_num (P N : Nat) (w0 : World) : ∀ l' w', BR w' P l' → Below N w0 w' → N ≤ w'.heap.size → Calls Tryz.prog 143 #[.pointer (some ⟨P, 0, none⟩)] w' (Out P (fun a _ v => ∃ d : Int, v = .int .i64 d ∧ id d = a ∧ (Lit.int .i64 d).wf = true) (rNum l') w') := fun l' w' h _ _ =>
  (bnumber P l' w' h).mono fun r w2 ho => ho.imp fun a l v hx hv => ⟨a, hv, rfl, wf_i64 (inI_num (rNum_isNum h.byte hx))⟩
theorem one_kind (P N : Nat) (w0 : World) : ∀ l' w', BR w' P l' → Below N w0 w' → N ≤ w'.heap.size → Calls Tryz.prog 185 #[.pointer (some ⟨P, 0, none⟩)] w' (Out P (fun a _ v => ∃ d : Int, v = .int .u8 d ∧ id d = a ∧ (Lit.int .u8 d).wf = true) (rKind l') w') := fun l' w' h _ _ =>
  (bkind P l' w' h).mono fun r w2 ho => ho.imp fun a l v hx hv => ⟨a, hv, rfl, by
    have := isK_or (cod_kind.ok _ _ _ h.byte hx).1
    exact wf_u8 (by omega) (by omega)⟩
def vGlo (a : GloV) (w : World) (v : Value) : Prop := ∃ d : GloD, v = .agg #[.int .u8 d.k, .bool d.m, .int .i64 d.s] ∧ d.val = a ∧ GloD.ok w d
def vDat (a : DatV) (w : World) (v : Value) : Prop := ∃ d : DatD, v = .agg #[.int .i64 d.a, .string d.s] ∧ d.val = a ∧ DatD.ok w d
def vEle (a : EleV) (w : World) (v : Value) : Prop := ∃ d : EleD, v = .agg #[.int .i64 d.a, .slice d.f.o d.f.n d.f.cap] ∧ d.val = a ∧ EleG w d
def vSig (a : SigV) (w : World) (v : Value) : Prop := ∃ d : SigD, v = .agg #[.slice d.i.o d.i.n d.i.cap, .slice d.r.o d.r.n d.r.cap] ∧ d.val = a ∧ SigG w d
theorem inI_sgn {B n : Int} (h : isSgn B n) : inI n := by
  rcases h with ⟨_, h1, h2⟩ | ⟨_, h1, h2⟩
  · exact ⟨by omega, by omega⟩
  · exact ⟨h1, h2⟩
theorem bimported (P : Nat) (l : List Int) (w : World) (h : BR w P l) (hA : Amb w) (hP4 : 4 ≤ P) :
    Calls Tryz.prog 147 #[.pointer (some ⟨P, 0, none⟩)] w (Out P vNam (rImp l) w) := by
  have hPw := h.lt
  have HA0 : Hid (type_of% hA) := hA
  clear hA
  have bA : Below w.heap.size w (w.alloc (.cells #[.string ⟨#[]⟩, .int .i64 0] 53)) := (Below.refl _ _).alloc (Nat.le_refl _) _
  have HB : Hid (BR (w.alloc (.cells #[.string ⟨#[]⟩, .int .i64 0] 53)) P l) := h.under bA
  have HC : Hid (Chg P w (w.alloc (.cells #[.string ⟨#[]⟩, .int .i64 0] 53))) := Chg.of_below bA
  have xQ : X2 53 (w.alloc (.cells #[.string ⟨#[]⟩, .int .i64 0] 53)) w.heap.size (.string ⟨#[]⟩) (.int .i64 0) := new_block _ _
  have hQP : w.heap.size ≠ P := by omega
  clear bA
  clear h
  have HA : Hid (Amb _) := HA0.out.chg HC.out hP4
  clear HA0
  go_enter Tryz.func147, Tryz.ntmps147
  go_wp2_with fail
  refine (bname P l _ HB.out HA.out).mono ?_
  intro r w1 ho
  rcases hx : rName l with x | ⟨s0, l1⟩
  · obtain ⟨c, rfl⟩ := ho.err hx
    exact ⟨rfl, Out.mkE (nxt_err hx) (HC.out.trans c)⟩
  obtain ⟨c, ⟨v, rfl, T1, hT1, rfl⟩, hb⟩ := ho.got hx
  have HX1 : Hid (rImp l = _) := nxt_of hx
  have HX : Hid (type_of% HX1.out) := HX1.out
  clear HX1
  have xQ1 := xQ.chg c hQP
  clear xQ
  have xQ := xQ1
  clear xQ1
  have HC1 : Hid (Chg P w w1) := HC.out.trans c
  clear HC
  have HC : Hid (Chg P w w1) := HC1.out
  clear HC1
  have HA1 : Hid (Amb w1) := HA.out.chg c hP4
  clear HA
  have HA : Hid (Amb w1) := HA1.out
  clear HA1
  clear HB
  have HB : Hid (BR w1 P l1) := hb
  clear hb ho
  have HT1 : Hid (nums T1 = s0) := hT1
  clear hT1
  have HK1 : Hid (type_of% hx) := hx
  clear hx c
  have hs := host_str T1 s0 HT1.out
  rcases hq : (s0 == host : Bool) with _ | _
  · rw [hq] at hs
    go_wp2_with fail
    refine (throw_f _ _).mono ?_
    rintro r w9 ⟨rfl, rfl⟩
    exact ⟨rfl, Out.mkE (HX.out.trans (nxt_err (by rw [hq]; rfl))) HC.out⟩
  rw [hq] at hs
  go_wp2_with fail
  refine (throw_t _ _).mono ?_
  rintro r w1 ⟨rfl, rfl⟩
  have HX1 : Hid (rImp l = _) := HX.out.trans (nxt_of (need_of hq _ _))
  clear HX
  have HX : Hid (type_of% HX1.out) := HX1.out
  clear HX1
  clear hs hq
  go_wp2_with fail
  refine (bname P l1 _ HB.out HA.out).mono ?_
  intro r w2 ho
  rcases hx : rName l1 with x | ⟨s1, l2⟩
  · obtain ⟨c, rfl⟩ := ho.err hx
    exact ⟨rfl, Out.mkE (HX.out.trans (nxt_err hx)) (HC.out.trans c)⟩
  obtain ⟨c, ⟨v, rfl, T2, hT2, rfl⟩, hb⟩ := ho.got hx
  have HX1 : Hid (rImp l = _) := HX.out.trans (nxt_of hx)
  clear HX
  have HX : Hid (type_of% HX1.out) := HX1.out
  clear HX1
  have xQ1 := xQ.chg c hQP
  clear xQ
  have xQ := xQ1
  clear xQ1
  have HC1 : Hid (Chg P w w2) := HC.out.trans c
  clear HC
  have HC : Hid (Chg P w w2) := HC1.out
  clear HC1
  have HA1 : Hid (Amb w2) := HA.out.chg c hP4
  clear HA
  have HA : Hid (Amb w2) := HA1.out
  clear HA1
  clear HB
  have HB : Hid (BR w2 P l2) := hb
  clear hb ho
  have HT2 : Hid (nums T2 = s1) := hT2
  clear hT2
  have HK2 : Hid (type_of% hx) := hx
  clear hx c
  go_wp2_with fail
  refine (bfixed P l2 0 6 _ HB.out).mono ?_
  intro r w3 ho
  rcases hx : rFix 0 6 l2 with x | ⟨u0, l3⟩
  · obtain ⟨c, rfl⟩ := ho.err hx
    exact ⟨rfl, Out.mkE (HX.out.trans (nxt_err hx)) (HC.out.trans c)⟩
  obtain ⟨c, ⟨v, rfl, rfl⟩, hb⟩ := ho.got hx
  have HX1 : Hid (rImp l = _) := HX.out.trans (nxt_of hx)
  clear HX
  have HX : Hid (type_of% HX1.out) := HX1.out
  clear HX1
  have xQ1 := xQ.chg c hQP
  clear xQ
  have xQ := xQ1
  clear xQ1
  have HC1 : Hid (Chg P w w3) := HC.out.trans c
  clear HC
  have HC : Hid (Chg P w w3) := HC1.out
  clear HC1
  have HA1 : Hid (Amb w3) := HA.out.chg c hP4
  clear HA
  have HA : Hid (Amb w3) := HA1.out
  clear HA1
  clear HB
  have HB : Hid (BR w3 P l3) := hb
  clear hb ho
  have HK3 : Hid (type_of% hx) := hx
  clear hx c
  have HBY : Hid (Bts l3) := HB.out.byte
  go_wp2_with fail
  refine (bnumber P l3 _ HB.out).mono ?_
  intro r w4 ho
  rcases hx : rNum l3 with x | ⟨n0, l4⟩
  · obtain ⟨c, rfl⟩ := ho.err hx
    exact ⟨rfl, Out.mkE (HX.out.trans (nxt_err hx)) (HC.out.trans c)⟩
  obtain ⟨c, ⟨v, rfl, rfl⟩, hb⟩ := ho.got hx
  have HX1 : Hid (rImp l = _) := HX.out.trans (nxt_of hx)
  clear HX
  have HX : Hid (type_of% HX1.out) := HX1.out
  clear HX1
  have xQ1 := xQ.chg c hQP
  clear xQ
  have xQ := xQ1
  clear xQ1
  have HC1 : Hid (Chg P w w4) := HC.out.trans c
  clear HC
  have HC : Hid (Chg P w w4) := HC1.out
  clear HC1
  have HA1 : Hid (Amb w4) := HA.out.chg c hP4
  clear HA
  have HA : Hid (Amb w4) := HA1.out
  clear HA1
  clear HB
  have HB : Hid (BR w4 P l4) := hb
  clear hb ho
  have HK4 : Hid (type_of% hx) := hx
  clear hx c
  obtain ⟨R, hR⟩ : ∃ R, w.heap.size = R := ⟨_, rfl⟩
  rw [hR] at xQ hQP
  obtain ⟨y0, y1⟩ := xQ.cell
  have f0 := xQ.frozen 0
  have f1 := xQ.frozen 1
  have HFX : Hid _ := ((xQ.set0 (.string T2)).set1 (.int .i64 n0))
  have HQ : Hid _ := (Chg.set R 0 w4 (.string T2)).trans (Chg.set R 1 _ (.int .i64 n0))
  have HXQ : Hid (type_of% xQ) := xQ
  clear xQ
  go_wp2
  obtain ⟨q0, q1⟩ := X2.cell HFX.out
  refine bodyPost_ret (v := .agg #[.string T2, .int .i64 n0]) (by simp [results, Tryz.results147, go_sem, q0, q1]) rfl ?_
  have kq : Kp (fun t => t != 53) w4 _ := Kp.chg HXQ.out HQ.out _ (by decide)
  exact Out.mkO HX.out (HC.out.new HQ.out (Nat.le_of_eq hR)) ⟨⟨T2, n0⟩, rfl, by rw [← HT2.out]; rfl, name_in HK2.out HT2.out, inI_num (rNum_isNum HBY.out HK4.out)⟩ (HB.out.kp kq (by decide))
theorem btable (P : Nat) (l : List Int) (w : World) (h : BR w P l) :
    Calls Tryz.prog 149 #[.pointer (some ⟨P, 0, none⟩)] w (Out P vNum (rTable l) w) := by
  have hPw := h.lt
  have HB : Hid (BR w P l) := h
  have HC : Hid (Chg P w w) := Chg.refl _ _
  clear h
  go_enter Tryz.func149, Tryz.ntmps149
  go_wp2_with fail
  refine (bcount P 1 l _ HB.out).mono ?_
  intro r w1 ho
  rcases hx : rCount 1 l with x | ⟨n0, l1⟩
  · obtain ⟨c, rfl⟩ := ho.err hx
    exact ⟨rfl, Out.mkE (nxt_err hx) (HC.out.trans c)⟩
  obtain ⟨c, ⟨v, rfl, rfl⟩, hb⟩ := ho.got hx
  have HX1 : Hid (rTable l = _) := nxt_of hx
  have HX : Hid (type_of% HX1.out) := HX1.out
  clear HX1
  have HC1 : Hid (Chg P w w1) := HC.out.trans c
  clear HC
  have HC : Hid (Chg P w w1) := HC1.out
  clear HC1
  clear HB
  have HB : Hid (BR w1 P l1) := hb
  clear hb ho
  have HK1 : Hid (type_of% hx) := hx
  clear hx c
  by_cases hz : n0 = 0
  · subst hz
    go_wp2
    go_ret
    exact Out.mkO HX.out HC.out rfl HB.out
  have hzb : (n0 == 0) = false := by rw [beq_eq_false_iff_ne]; exact hz
  have HX1 : Hid (rTable l = _) := HX.out.trans (by rw [if_neg hz])
  clear HX
  have HX : Hid (type_of% HX1.out) := HX1.out
  clear HX1
  go_wp2_with fail
  refine (bfixed P l1 112 6 _ HB.out).mono ?_
  intro r w2 ho
  rcases hx : rFix 112 6 l1 with x | ⟨u0, l2⟩
  · obtain ⟨c, rfl⟩ := ho.err hx
    exact ⟨rfl, Out.mkE (HX.out.trans (nxt_err hx)) (HC.out.trans c)⟩
  obtain ⟨c, ⟨v, rfl, rfl⟩, hb⟩ := ho.got hx
  have HX1 : Hid (rTable l = _) := HX.out.trans (nxt_of hx)
  clear HX
  have HX : Hid (type_of% HX1.out) := HX1.out
  clear HX1
  have HC1 : Hid (Chg P w w2) := HC.out.trans c
  clear HC
  have HC : Hid (Chg P w w2) := HC1.out
  clear HC1
  clear HB
  have HB : Hid (BR w2 P l2) := hb
  clear hb ho
  have HK2 : Hid (type_of% hx) := hx
  clear hx c
  go_wp2_with fail
  refine (bfixed P l2 0 6 _ HB.out).mono ?_
  intro r w3 ho
  rcases hx : rFix 0 6 l2 with x | ⟨u1, l3⟩
  · obtain ⟨c, rfl⟩ := ho.err hx
    exact ⟨rfl, Out.mkE (HX.out.trans (nxt_err hx)) (HC.out.trans c)⟩
  obtain ⟨c, ⟨v, rfl, rfl⟩, hb⟩ := ho.got hx
  have HX1 : Hid (rTable l = _) := HX.out.trans (nxt_of hx)
  clear HX
  have HX : Hid (type_of% HX1.out) := HX1.out
  clear HX1
  have HC1 : Hid (Chg P w w3) := HC.out.trans c
  clear HC
  have HC : Hid (Chg P w w3) := HC1.out
  clear HC1
  clear HB
  have HB : Hid (BR w3 P l3) := hb
  clear hb ho
  have HK3 : Hid (type_of% hx) := hx
  clear hx c
  go_wp2_with fail
  refine (bcount P 16 l3 _ HB.out).mono ?_
  intro r w4 ho
  rcases hx : rCount 16 l3 with x | ⟨n1, l4⟩
  · obtain ⟨c, rfl⟩ := ho.err hx
    exact ⟨rfl, Out.mkE (HX.out.trans hx) (HC.out.trans c)⟩
  obtain ⟨c, ⟨v, rfl, rfl⟩, hb⟩ := ho.got hx
  have HX1 : Hid (rTable l = _) := HX.out.trans hx
  clear HX
  have HX : Hid (type_of% HX1.out) := HX1.out
  have HC1 : Hid (Chg P w w4) := HC.out.trans c
  clear HC
  have HC : Hid (Chg P w w4) := HC1.out
  clear HB
  have HB : Hid (BR w4 P l4) := hb
  clear hb ho hx c HX1 HC1
  go_wp2
  go_ret
  exact Out.mkO HX.out HC.out rfl HB.out
theorem bmemory (P : Nat) (l : List Int) (w : World) (h : BR w P l) :
    Calls Tryz.prog 150 #[.pointer (some ⟨P, 0, none⟩)] w (Out P (fun a _ v => v = .tuple #[.int .i64 a.1, .int .i64 a.2]) (rMem l) w) := by
  have hPw := h.lt
  have HB : Hid (BR w P l) := h
  have HC : Hid (Chg P w w) := Chg.refl _ _
  clear h
  go_enter Tryz.func150, Tryz.ntmps150
  go_wp2_with fail
  refine (bcount P 1 l _ HB.out).mono ?_
  intro r w1 ho
  rcases hx : rCount 1 l with x | ⟨n0, l1⟩
  · obtain ⟨c, rfl⟩ := ho.err hx
    exact ⟨rfl, Out.mkE (nxt_err hx) (HC.out.trans c)⟩
  obtain ⟨c, ⟨v, rfl, rfl⟩, hb⟩ := ho.got hx
  have HX1 : Hid (rMem l = _) := nxt_of hx
  have HX : Hid (type_of% HX1.out) := HX1.out
  clear HX1
  have HC1 : Hid (Chg P w w1) := HC.out.trans c
  clear HC
  have HC : Hid (Chg P w w1) := HC1.out
  clear HC1
  clear HB
  have HB : Hid (BR w1 P l1) := hb
  clear hb ho
  have HK1 : Hid (type_of% hx) := hx
  clear hx c
  by_cases hz : n0 = 0
  · subst hz
    go_wp2
    go_ret2
    exact Out.mkO HX.out HC.out rfl HB.out
  have hzb : (n0 == 0) = false := by rw [beq_eq_false_iff_ne]; exact hz
  have HX1 : Hid (rMem l = _) := HX.out.trans (by rw [if_neg hz])
  clear HX
  have HX : Hid (type_of% HX1.out) := HX1.out
  clear HX1
  go_wp2_with fail
  refine (bfixed P l1 1 6 _ HB.out).mono ?_
  intro r w2 ho
  rcases hx : rFix 1 6 l1 with x | ⟨u0, l2⟩
  · obtain ⟨c, rfl⟩ := ho.err hx
    exact ⟨rfl, Out.mkE (HX.out.trans (nxt_err hx)) (HC.out.trans c)⟩
  obtain ⟨c, ⟨v, rfl, rfl⟩, hb⟩ := ho.got hx
  have HX1 : Hid (rMem l = _) := HX.out.trans (nxt_of hx)
  clear HX
  have HX : Hid (type_of% HX1.out) := HX1.out
  clear HX1
  have HC1 : Hid (Chg P w w2) := HC.out.trans c
  clear HC
  have HC : Hid (Chg P w w2) := HC1.out
  clear HC1
  clear HB
  have HB : Hid (BR w2 P l2) := hb
  clear hb ho
  have HK2 : Hid (type_of% hx) := hx
  clear hx c
  go_wp2_with fail
  refine (bnumber P l2 _ HB.out).mono ?_
  intro r w3 ho
  rcases hx : rNum l2 with x | ⟨n1, l3⟩
  · obtain ⟨c, rfl⟩ := ho.err hx
    exact ⟨rfl, Out.mkE (HX.out.trans (nxt_err hx)) (HC.out.trans c)⟩
  obtain ⟨c, ⟨v, rfl, rfl⟩, hb⟩ := ho.got hx
  have HX1 : Hid (rMem l = _) := HX.out.trans (nxt_of hx)
  clear HX
  have HX : Hid (type_of% HX1.out) := HX1.out
  clear HX1
  have HC1 : Hid (Chg P w w3) := HC.out.trans c
  clear HC
  have HC : Hid (Chg P w w3) := HC1.out
  clear HC1
  clear HB
  have HB : Hid (BR w3 P l3) := hb
  clear hb ho
  have HK3 : Hid (type_of% hx) := hx
  clear hx c
  go_wp2_with fail
  refine (bcount P 8 l3 _ HB.out).mono ?_
  intro r w4 ho
  rcases hx : rCount 8 l3 with x | ⟨n2, l4⟩
  · obtain ⟨c, rfl⟩ := ho.err hx
    exact ⟨rfl, Out.mkE (HX.out.trans (nxt_err hx)) (HC.out.trans c)⟩
  obtain ⟨c, ⟨v, rfl, rfl⟩, hb⟩ := ho.got hx
  have HX1 : Hid (rMem l = _) := HX.out.trans (nxt_of hx)
  clear HX
  have HX : Hid (type_of% HX1.out) := HX1.out
  clear HX1
  have HC1 : Hid (Chg P w w4) := HC.out.trans c
  clear HC
  have HC : Hid (Chg P w w4) := HC1.out
  clear HC1
  clear HB
  have HB : Hid (BR w4 P l4) := hb
  clear hb ho
  have HK4 : Hid (type_of% hx) := hx
  clear hx c
  rcases hq : (decide (n1 ≤ n2) : Bool) with _ | _
  · go_wp2_with fail
    refine (throw_f _ _).mono ?_
    rintro r w9 ⟨rfl, rfl⟩
    exact ⟨rfl, Out.mkE (HX.out.trans (nxt_err (by rw [hq]; rfl))) HC.out⟩
  go_wp2_with fail
  refine (throw_t _ _).mono ?_
  rintro r w4 ⟨rfl, rfl⟩
  have HX1 : Hid (rMem l = _) := HX.out.trans (nxt_of (need_of hq _ _))
  clear HX
  have HX : Hid (type_of% HX1.out) := HX1.out
  clear HX1
  go_wp2
  go_ret2
  exact Out.mkO HX.out HC.out rfl HB.out
theorem bstart (P : Nat) (l : List Int) (w : World) (h : BR w P l) :
    Calls Tryz.prog 155 #[.pointer (some ⟨P, 0, none⟩)] w (Out P vNum (rStart l) w) := by
  have hPw := h.lt
  have HB : Hid (BR w P l) := h
  have HC : Hid (Chg P w w) := Chg.refl _ _
  clear h
  go_enter Tryz.func155, Tryz.ntmps155
  have HBY : Hid (Bts l) := HB.out.byte
  go_wp2_with fail
  refine (bnumber P l _ HB.out).mono ?_
  intro r w1 ho
  rcases hx : rNum l with x | ⟨n0, l1⟩
  · obtain ⟨c, rfl⟩ := ho.err hx
    exact ⟨rfl, Out.mkE (nxt_err hx) (HC.out.trans c)⟩
  obtain ⟨c, ⟨v, rfl, rfl⟩, hb⟩ := ho.got hx
  have HX1 : Hid (rStart l = _) := nxt_of hx
  have HX : Hid (type_of% HX1.out) := HX1.out
  clear HX1
  have HC1 : Hid (Chg P w w1) := HC.out.trans c
  clear HC
  have HC : Hid (Chg P w w1) := HC1.out
  clear HC1
  clear HB
  have HB : Hid (BR w1 P l1) := hb
  clear hb ho
  have HK1 : Hid (type_of% hx) := hx
  clear hx c
  have hn0 := rNum_isNum HBY.out HK1.out
  obtain ⟨hn1, hn2⟩ := hn0
  rcases hq : (decide (n0 < 4294967295) : Bool) with _ | _
  · go_wp2_with fail
    refine (throw_f _ _).mono ?_
    rintro r w9 ⟨rfl, rfl⟩
    exact ⟨rfl, Out.mkE (HX.out.trans (nxt_err (by rw [hq]; rfl))) HC.out⟩
  go_wp2_with fail
  refine (throw_t _ _).mono ?_
  rintro r w1 ⟨rfl, rfl⟩
  have HX1 : Hid (rStart l = _) := HX.out.trans (nxt_of (need_of hq _ _))
  clear HX
  have HX : Hid (type_of% HX1.out) := HX1.out
  clear HX1
  go_wp2
  go_ret
  exact Out.mkO HX.out HC.out rfl HB.out
theorem belem (P : Nat) (N : Nat) (w0 : World) (l : List Int) (w : World) (h : BR w P l) (hW : Below N w0 w ∧ N ≤ hsz w) (hNP : N ≤ P) :
    Calls Tryz.prog 157 #[.pointer (some ⟨P, 0, none⟩)] w (Out P vEle (rEle l) w) := by
  have hPw := h.lt
  have bA : Below w.heap.size w (w.alloc (.cells #[.int .i64 0, .slice none 0 0] 68)) := (Below.refl _ _).alloc (Nat.le_refl _) _
  have HB : Hid (BR (w.alloc (.cells #[.int .i64 0, .slice none 0 0] 68)) P l) := h.under bA
  have HC : Hid (Chg P w (w.alloc (.cells #[.int .i64 0, .slice none 0 0] 68))) := Chg.of_below bA
  have xQ : X2 68 (w.alloc (.cells #[.int .i64 0, .slice none 0 0] 68)) w.heap.size (.int .i64 0) (.slice none 0 0) := new_block _ _
  have hQP : w.heap.size ≠ P := by omega
  clear bA
  clear h
  have HW : Hid (Below N w0 _ ∧ N ≤ hsz _) := wOf hW HC.out hNP
  clear hW
  go_enter Tryz.func157, Tryz.ntmps157
  have HBY : Hid (Bts l) := HB.out.byte
  go_wp2_with fail
  refine (bplace P l _ HB.out).mono ?_
  intro r w1 ho
  rcases hx : rPlace l with x | ⟨a0, l1⟩
  · obtain ⟨c, rfl⟩ := ho.err hx
    exact ⟨rfl, Out.mkE (nxt_err hx) (HC.out.trans c)⟩
  obtain ⟨c, ⟨v, rfl, rfl⟩, hb⟩ := ho.got hx
  have HX1 : Hid (rEle l = _) := nxt_of hx
  have HX : Hid (type_of% HX1.out) := HX1.out
  clear HX1
  have xQ1 := xQ.chg c hQP
  clear xQ
  have xQ := xQ1
  clear xQ1
  have HC1 : Hid (Chg P w w1) := HC.out.trans c
  clear HC
  have HC : Hid (Chg P w w1) := HC1.out
  clear HC1
  have HW1 : Hid (Below N w0 w1 ∧ N ≤ hsz w1) := wOf HW.out c hNP
  clear HW
  have HW : Hid (Below N w0 w1 ∧ N ≤ hsz w1) := HW1.out
  clear HW1
  clear HB
  have HB : Hid (BR w1 P l1) := hb
  clear hb ho
  have HK1 : Hid (type_of% hx) := hx
  clear hx c
  go_wp2_with fail
  refine (blist_int P N 16 (by omega) rNum id w0 _ l1 HB.out HW.out.1 hNP HW.out.2 (one_num P N w0)).mono ?_
  intro r w2 ho
  rcases hx : rList 16 rNum l1 with x | ⟨f0, l2⟩
  · obtain ⟨c, rfl⟩ := ho.err hx
    exact ⟨rfl, Out.mkE (HX.out.trans (nxt_err hx)) (HC.out.trans c)⟩
  obtain ⟨c, ⟨v, rfl, o2, cap2, L2, rfl, hm2, hl2⟩, hb⟩ := ho.got hx
  have HX1 : Hid (rEle l = _) := HX.out.trans (nxt_of hx)
  clear HX
  have HX : Hid (type_of% HX1.out) := HX1.out
  clear HX1
  have xQ1 := xQ.chg c hQP
  clear xQ
  have xQ := xQ1
  clear xQ1
  have HC1 : Hid (Chg P w w2) := HC.out.trans c
  clear HC
  have HC : Hid (Chg P w w2) := HC1.out
  clear HC1
  have HW1 : Hid (Below N w0 w2 ∧ N ≤ hsz w2) := wOf HW.out c hNP
  clear HW
  have HW : Hid (Below N w0 w2 ∧ N ≤ hsz w2) := HW1.out
  clear HW1
  clear HB
  have HB : Hid (BR w2 P l2) := hb
  clear hb ho
  have HL2 : Hid (type_of% hl2) := hl2
  have HM2 : Hid (type_of% hm2) := hm2
  clear hl2 hm2
  have HK2 : Hid (type_of% hx) := hx
  clear hx c
  obtain ⟨R, hR⟩ : ∃ R, w.heap.size = R := ⟨_, rfl⟩
  rw [hR] at xQ hQP
  obtain ⟨y0, y1⟩ := xQ.cell
  have f0 := xQ.frozen 0
  have f1 := xQ.frozen 1
  have HFX : Hid _ := ((xQ.set0 (.int .i64 a0)).set1 (.slice o2 L2.length cap2))
  have HQ : Hid _ := (Chg.set R 0 w2 (.int .i64 a0)).trans (Chg.set R 1 _ (.slice o2 L2.length cap2))
  have HXQ : Hid (type_of% xQ) := xQ
  clear xQ
  go_wp2
  obtain ⟨q0, q1⟩ := X2.cell HFX.out
  refine bodyPost_ret (v := .agg #[.int .i64 a0, .slice o2 L2.length cap2]) (by simp [results, Tryz.results157, go_sem, q0, q1]) rfl ?_
  have kq : Kp (fun t => t != 68) w2 _ := Kp.chg HXQ.out HQ.out _ (by decide)
  exact Out.mkO HX.out (HC.out.new HQ.out (Nat.le_of_eq hR)) ⟨⟨a0, ⟨o2, L2.length, cap2, L2⟩⟩, rfl, by rw [← HM2.out, List.map_id]; rfl, inI_sgn (cod_place.ok _ _ _ HBY.out HK1.out).1, (HL2.out.num).kp kq (by decide)⟩ (HB.out.kp kq (by decide))
theorem bsig (P : Nat) (N : Nat) (w0 : World) (l : List Int) (w : World) (h : BR w P l) (hW : Below N w0 w ∧ N ≤ hsz w) (hNP : N ≤ P) :
    Calls Tryz.prog 145 #[.pointer (some ⟨P, 0, none⟩)] w (Out P vSig (rSig l) w) := by
  have hPw := h.lt
  have bA : Below w.heap.size w (w.alloc (.cells #[.slice none 0 0, .slice none 0 0] 50)) := (Below.refl _ _).alloc (Nat.le_refl _) _
  have HB : Hid (BR (w.alloc (.cells #[.slice none 0 0, .slice none 0 0] 50)) P l) := h.under bA
  have HC : Hid (Chg P w (w.alloc (.cells #[.slice none 0 0, .slice none 0 0] 50))) := Chg.of_below bA
  have xQ : X2 50 (w.alloc (.cells #[.slice none 0 0, .slice none 0 0] 50)) w.heap.size (.slice none 0 0) (.slice none 0 0) := new_block _ _
  have hQP : w.heap.size ≠ P := by omega
  clear bA
  clear h
  have HW : Hid (Below N w0 _ ∧ N ≤ hsz _) := wOf hW HC.out hNP
  clear hW
  go_enter Tryz.func145, Tryz.ntmps145
  go_wp2_with fail
  refine (bfixed P l 96 4 _ HB.out).mono ?_
  intro r w1 ho
  rcases hx : rFix 96 4 l with x | ⟨u0, l1⟩
  · obtain ⟨c, rfl⟩ := ho.err hx
    exact ⟨rfl, Out.mkE (nxt_err hx) (HC.out.trans c)⟩
  obtain ⟨c, ⟨v, rfl, rfl⟩, hb⟩ := ho.got hx
  have HX1 : Hid (rSig l = _) := nxt_of hx
  have HX : Hid (type_of% HX1.out) := HX1.out
  clear HX1
  have xQ1 := xQ.chg c hQP
  clear xQ
  have xQ := xQ1
  clear xQ1
  have HC1 : Hid (Chg P w w1) := HC.out.trans c
  clear HC
  have HC : Hid (Chg P w w1) := HC1.out
  clear HC1
  have HW1 : Hid (Below N w0 w1 ∧ N ≤ hsz w1) := wOf HW.out c hNP
  clear HW
  have HW : Hid (Below N w0 w1 ∧ N ≤ hsz w1) := HW1.out
  clear HW1
  clear HB
  have HB : Hid (BR w1 P l1) := hb
  clear hb ho
  have HK1 : Hid (type_of% hx) := hx
  clear hx c
  go_wp2_with fail
  refine (blist_kin P N 4 (by omega) rKind id w0 _ l1 HB.out HW.out.1 hNP HW.out.2 (one_kind P N w0)).mono ?_
  intro r w2 ho
  rcases hx : rList 4 rKind l1 with x | ⟨i0, l2⟩
  · obtain ⟨c, rfl⟩ := ho.err hx
    exact ⟨rfl, Out.mkE (HX.out.trans (nxt_err hx)) (HC.out.trans c)⟩
  obtain ⟨c, ⟨v, rfl, o2, cap2, L2, rfl, hm2, hl2⟩, hb⟩ := ho.got hx
  have HX1 : Hid (rSig l = _) := HX.out.trans (nxt_of hx)
  clear HX
  have HX : Hid (type_of% HX1.out) := HX1.out
  clear HX1
  have xQ1 := xQ.chg c hQP
  clear xQ
  have xQ := xQ1
  clear xQ1
  have HC1 : Hid (Chg P w w2) := HC.out.trans c
  clear HC
  have HC : Hid (Chg P w w2) := HC1.out
  clear HC1
  have HW1 : Hid (Below N w0 w2 ∧ N ≤ hsz w2) := wOf HW.out c hNP
  clear HW
  have HW : Hid (Below N w0 w2 ∧ N ≤ hsz w2) := HW1.out
  clear HW1
  clear HB
  have HB : Hid (BR w2 P l2) := hb
  clear hb ho
  have HL2 : Hid (type_of% hl2) := hl2
  have HM2 : Hid (type_of% hm2) := hm2
  clear hl2 hm2
  have HK2 : Hid (type_of% hx) := hx
  clear hx c
  go_wp2_with fail
  refine (blist_kin P N 1 (by omega) rKind id w0 _ l2 HB.out HW.out.1 hNP HW.out.2 (one_kind P N w0)).mono ?_
  intro r w3 ho
  rcases hx : rList 1 rKind l2 with x | ⟨i1, l3⟩
  · obtain ⟨c, rfl⟩ := ho.err hx
    exact ⟨rfl, Out.mkE (HX.out.trans (nxt_err hx)) (HC.out.trans c)⟩
  obtain ⟨c, ⟨v, rfl, o3, cap3, L3, rfl, hm3, hl3⟩, hb⟩ := ho.got hx
  have HX1 : Hid (rSig l = _) := HX.out.trans (nxt_of hx)
  clear HX
  have HX : Hid (type_of% HX1.out) := HX1.out
  clear HX1
  have xQ1 := xQ.chg c hQP
  clear xQ
  have xQ := xQ1
  clear xQ1
  have HL21 : Hid _ := HL2.out.kp (Kp.reader HB.out c (fun t => t != 79) (by decide)) (by decide) (fun _ hd => hd)
  clear HL2
  have HL2 : Hid (type_of% HL21.out) := HL21.out
  clear HL21
  have HC1 : Hid (Chg P w w3) := HC.out.trans c
  clear HC
  have HC : Hid (Chg P w w3) := HC1.out
  clear HC1
  have HW1 : Hid (Below N w0 w3 ∧ N ≤ hsz w3) := wOf HW.out c hNP
  clear HW
  have HW : Hid (Below N w0 w3 ∧ N ≤ hsz w3) := HW1.out
  clear HW1
  clear HB
  have HB : Hid (BR w3 P l3) := hb
  clear hb ho
  have HL3 : Hid (type_of% hl3) := hl3
  have HM3 : Hid (type_of% hm3) := hm3
  clear hl3 hm3
  have HK3 : Hid (type_of% hx) := hx
  clear hx c
  obtain ⟨R, hR⟩ : ∃ R, w.heap.size = R := ⟨_, rfl⟩
  rw [hR] at xQ hQP
  obtain ⟨y0, y1⟩ := xQ.cell
  have f0 := xQ.frozen 0
  have f1 := xQ.frozen 1
  have HFX : Hid _ := ((xQ.set0 (.slice o2 L2.length cap2)).set1 (.slice o3 L3.length cap3))
  have HQ : Hid _ := (Chg.set R 0 w3 (.slice o2 L2.length cap2)).trans (Chg.set R 1 _ (.slice o3 L3.length cap3))
  have HXQ : Hid (type_of% xQ) := xQ
  clear xQ
  go_wp2
  obtain ⟨q0, q1⟩ := X2.cell HFX.out
  refine bodyPost_ret (v := .agg #[.slice o2 L2.length cap2, .slice o3 L3.length cap3]) (by simp [results, Tryz.results145, go_sem, q0, q1]) rfl ?_
  have kq : Kp (fun t => t != 50) w3 _ := Kp.chg HXQ.out HQ.out _ (by decide)
  exact Out.mkO HX.out (HC.out.new HQ.out (Nat.le_of_eq hR)) ⟨⟨⟨o2, L2.length, cap2, L2⟩, ⟨o3, L3.length, cap3, L3⟩⟩, rfl, by rw [← HM2.out, ← HM3.out, List.map_id, List.map_id]; rfl, (HL2.out.num).kp kq (by decide), (HL3.out.num).kp kq (by decide)⟩ (HB.out.kp kq (by decide))
theorem op_cases (o : Int) : ((o == 65) = false ∧ (o == 66) = false) ∨ (o == 65) = true ∨ ((o == 65) = false ∧ (o == 66) = true) := by
  cases (o == 65) <;> cases (o == 66) <;> simp
theorem piece_len {n : Int} {l s r : List Int} (h : rPiece n l = .ok (s, r)) : s.length ≤ l.length ∧ (0 ≤ n → (s.length : Int) = n) := by
  unfold rPiece at h
  split at h
  · simp only [Except.ok.injEq, Prod.mk.injEq] at h
    rw [← h.1, List.length_take]
    exact ⟨by omega, fun _ => by omega⟩
  · cases h
theorem bglobal (P : Nat) (l : List Int) (w : World) (h : BR w P l) :
    Calls Tryz.prog 152 #[.pointer (some ⟨P, 0, none⟩)] w (Out P vGlo (rGlo l) w) := by
  have hPw := h.lt
  have bA : Below w.heap.size w (w.alloc (.cells #[.int .u8 0, .bool false, .int .i64 0] 63)) := (Below.refl _ _).alloc (Nat.le_refl _) _
  have HB : Hid (BR (w.alloc (.cells #[.int .u8 0, .bool false, .int .i64 0] 63)) P l) := h.under bA
  have HC : Hid (Chg P w (w.alloc (.cells #[.int .u8 0, .bool false, .int .i64 0] 63))) := Chg.of_below bA
  have xQ : X3 63 (w.alloc (.cells #[.int .u8 0, .bool false, .int .i64 0] 63)) w.heap.size (.int .u8 0) (.bool false) (.int .i64 0) := new_block _ _
  have hQP : w.heap.size ≠ P := by omega
  clear bA
  clear h
  go_enter Tryz.func152, Tryz.ntmps152
  have HBY : Hid (Bts l) := HB.out.byte
  go_wp2_with fail
  refine (bkind P l _ HB.out).mono ?_
  intro r w1 ho
  rcases hx : rKind l with x | ⟨k0, l1⟩
  · obtain ⟨c, rfl⟩ := ho.err hx
    exact ⟨rfl, Out.mkE (nxt_err hx) (HC.out.trans c)⟩
  obtain ⟨c, ⟨v, rfl, rfl⟩, hb⟩ := ho.got hx
  have HX1 : Hid (rGlo l = _) := nxt_of hx
  have HX : Hid (type_of% HX1.out) := HX1.out
  clear HX1
  have xQ1 := xQ.chg c hQP
  clear xQ
  have xQ := xQ1
  clear xQ1
  have HC1 : Hid (Chg P w w1) := HC.out.trans c
  clear HC
  have HC : Hid (Chg P w w1) := HC1.out
  clear HC1
  clear HB
  have HB : Hid (BR w1 P l1) := hb
  clear hb ho
  have HK1 : Hid (type_of% hx) := hx
  clear hx c
  go_wp2_with fail
  refine (bnext P l1 _ HB.out).mono ?_
  intro r w2 ho
  rcases hx : rNext l1 with x | ⟨m0, l2⟩
  · obtain ⟨c, rfl⟩ := ho.err hx
    exact ⟨rfl, Out.mkE (HX.out.trans (nxt_err hx)) (HC.out.trans c)⟩
  obtain ⟨c, ⟨v, rfl, rfl⟩, hb⟩ := ho.got hx
  have HX1 : Hid (rGlo l = _) := HX.out.trans (nxt_of hx)
  clear HX
  have HX : Hid (type_of% HX1.out) := HX1.out
  clear HX1
  have xQ1 := xQ.chg c hQP
  clear xQ
  have xQ := xQ1
  clear xQ1
  have HC1 : Hid (Chg P w w2) := HC.out.trans c
  clear HC
  have HC : Hid (Chg P w w2) := HC1.out
  clear HC1
  clear HB
  have HB : Hid (BR w2 P l2) := hb
  clear hb ho
  have HK2 : Hid (type_of% hx) := hx
  clear hx c
  rcases hq : (decide (m0 ≤ 1) : Bool) with _ | _
  · go_wp2_with fail
    refine (throw_f _ _).mono ?_
    rintro r w9 ⟨rfl, rfl⟩
    exact ⟨rfl, Out.mkE (HX.out.trans (nxt_err (by rw [hq]; rfl))) HC.out⟩
  go_wp2_with fail
  refine (throw_t _ _).mono ?_
  rintro r w2 ⟨rfl, rfl⟩
  have HX1 : Hid (rGlo l = _) := HX.out.trans (nxt_of (need_of hq _ _))
  clear HX
  have HX : Hid (type_of% HX1.out) := HX1.out
  clear HX1
  go_wp2_with fail
  refine (bnext P l2 _ HB.out).mono ?_
  intro r w3 ho
  rcases hx : rNext l2 with x | ⟨op0, l3⟩
  · obtain ⟨c, rfl⟩ := ho.err hx
    exact ⟨rfl, Out.mkE (HX.out.trans (nxt_err hx)) (HC.out.trans c)⟩
  obtain ⟨c, ⟨v, rfl, rfl⟩, hb⟩ := ho.got hx
  have HX1 : Hid (rGlo l = _) := HX.out.trans (nxt_of hx)
  clear HX
  have HX : Hid (type_of% HX1.out) := HX1.out
  clear HX1
  have xQ1 := xQ.chg c hQP
  clear xQ
  have xQ := xQ1
  clear xQ1
  have HC1 : Hid (Chg P w w3) := HC.out.trans c
  clear HC
  have HC : Hid (Chg P w w3) := HC1.out
  clear HC1
  clear HB
  have HB : Hid (BR w3 P l3) := hb
  clear hb ho
  have HK3 : Hid (type_of% hx) := hx
  clear hx c
  rcases op_cases op0 with ⟨h65, h66⟩ | h65 | ⟨h65, h66⟩
  · go_wp2_with fail
    refine (throw_f _ _).mono ?_
    rintro r w9 ⟨rfl, rfl⟩
    exact ⟨rfl, Out.mkE (HX.out.trans (nxt_err (by rw [h65, h66]; rfl))) HC.out⟩
  · have hq : (op0 == 65 || op0 == 66) = true := by rw [h65]; rfl
    go_wp2_with fail
    refine (throw_t _ _).mono ?_
    rintro r w3 ⟨rfl, rfl⟩
    have HX1 : Hid (rGlo l = _) := HX.out.trans (nxt_of (need_of hq _ _))
    clear HX
    have HX : Hid (type_of% HX1.out) := HX1.out
    clear HX1 hq
    go_wp2_with fail
    refine (constOf_any k0 _).mono ?_
    rintro r w3 ⟨rfl, rfl⟩
    rcases hq : (op0 == cst k0 : Bool) with _ | _
    · go_wp2_with fail
      refine (throw_f _ _).mono ?_
      rintro r w9 ⟨rfl, rfl⟩
      exact ⟨rfl, Out.mkE (HX.out.trans (nxt_err (by rw [hq]; rfl))) HC.out⟩
    go_wp2_with fail
    refine (throw_t _ _).mono ?_
    rintro r w3 ⟨rfl, rfl⟩
    have HX1 : Hid (rGlo l = _) := HX.out.trans (nxt_of (need_of hq _ _))
    clear HX
    have HX : Hid (type_of% HX1.out) := HX1.out
    clear HX1
    go_wp2_with fail
    refine (bitsOf_any k0 _).mono ?_
    rintro r w3 ⟨rfl, rfl⟩
    have HBY3 : Hid (Bts l3) := HB.out.byte
    go_wp2_with fail
    refine (bsigned P (bts k0) (bts_or k0) l3 _ HB.out).mono ?_
    intro r w4 ho
    rcases hx : rSgn (bts k0) l3 with x | ⟨s0, l4⟩
    · obtain ⟨c, rfl⟩ := ho.err hx
      exact ⟨rfl, Out.mkE (HX.out.trans (nxt_err hx)) (HC.out.trans c)⟩
    obtain ⟨c, ⟨v, rfl, rfl⟩, hb⟩ := ho.got hx
    have HX1 : Hid (rGlo l = _) := HX.out.trans (nxt_of hx)
    clear HX
    have HX : Hid (type_of% HX1.out) := HX1.out
    clear HX1
    have xQ1 := xQ.chg c hQP
    clear xQ
    have xQ := xQ1
    clear xQ1
    have HC1 : Hid (Chg P w w4) := HC.out.trans c
    clear HC
    have HC : Hid (Chg P w w4) := HC1.out
    clear HC1
    clear HB
    have HB : Hid (BR w4 P l4) := hb
    clear hb ho
    have HK4 : Hid (type_of% hx) := hx
    clear hx c
    go_wp2_with fail
    refine (bfixed P l4 11 4 _ HB.out).mono ?_
    intro r w5 ho
    rcases hx : rFix 11 4 l4 with x | ⟨u0, l5⟩
    · obtain ⟨c, rfl⟩ := ho.err hx
      exact ⟨rfl, Out.mkE (HX.out.trans (nxt_err hx)) (HC.out.trans c)⟩
    obtain ⟨c, ⟨v, rfl, rfl⟩, hb⟩ := ho.got hx
    have HX1 : Hid (rGlo l = _) := HX.out.trans (nxt_of hx)
    clear HX
    have HX : Hid (type_of% HX1.out) := HX1.out
    clear HX1
    have xQ1 := xQ.chg c hQP
    clear xQ
    have xQ := xQ1
    clear xQ1
    have HC1 : Hid (Chg P w w5) := HC.out.trans c
    clear HC
    have HC : Hid (Chg P w w5) := HC1.out
    clear HC1
    clear HB
    have HB : Hid (BR w5 P l5) := hb
    clear hb ho
    have HK5 : Hid (type_of% hx) := hx
    clear hx c
    obtain ⟨R, hR⟩ : ∃ R, w.heap.size = R := ⟨_, rfl⟩
    rw [hR] at xQ hQP
    obtain ⟨y0, y1, y2⟩ := xQ.cell
    have f0 := xQ.frozen 0
    have f1 := xQ.frozen 1
    have f2 := xQ.frozen 2
    have HFX : Hid _ := (((xQ.set0 (.int .u8 k0)).set1 (.bool (m0 == 1))).set2 (.int .i64 s0))
    have HQ : Hid _ := ((Chg.set R 0 w5 (.int .u8 k0)).trans (Chg.set R 1 _ (.bool (m0 == 1)))).trans (Chg.set R 2 _ (.int .i64 s0))
    have HXQ : Hid (type_of% xQ) := xQ
    clear xQ
    go_wp2
    obtain ⟨q0, q1, q2⟩ := X3.cell HFX.out
    refine bodyPost_ret (v := .agg #[.int .u8 k0, .bool (m0 == 1), .int .i64 s0]) (by simp [results, Tryz.results152, go_sem, q0, q1, q2]) rfl ?_
    have kq : Kp (fun t => t != 63) w5 _ := Kp.chg HXQ.out HQ.out _ (by decide)
    exact Out.mkO HX.out (HC.out.new HQ.out (Nat.le_of_eq hR)) ⟨⟨k0, m0 == 1, s0⟩, rfl, rfl, by have := isK_or (cod_kind.ok _ _ _ HBY.out HK1.out).1; exact ⟨by dsimp only; omega, by dsimp only; omega, inI_sgn ((cod_sgn _ (bts_or k0)).ok _ _ _ HBY3.out HK4.out).1⟩⟩ (HB.out.kp kq (by decide))
  · have hq : (op0 == 65 || op0 == 66) = true := by rw [h65, h66]; rfl
    go_wp2_with fail
    refine (throw_t _ _).mono ?_
    rintro r w3 ⟨rfl, rfl⟩
    have HX1 : Hid (rGlo l = _) := HX.out.trans (nxt_of (need_of hq _ _))
    clear HX
    have HX : Hid (type_of% HX1.out) := HX1.out
    clear HX1 hq
    go_wp2_with fail
    refine (constOf_any k0 _).mono ?_
    rintro r w3 ⟨rfl, rfl⟩
    rcases hq : (op0 == cst k0 : Bool) with _ | _
    · go_wp2_with fail
      refine (throw_f _ _).mono ?_
      rintro r w9 ⟨rfl, rfl⟩
      exact ⟨rfl, Out.mkE (HX.out.trans (nxt_err (by rw [hq]; rfl))) HC.out⟩
    go_wp2_with fail
    refine (throw_t _ _).mono ?_
    rintro r w3 ⟨rfl, rfl⟩
    have HX1 : Hid (rGlo l = _) := HX.out.trans (nxt_of (need_of hq _ _))
    clear HX
    have HX : Hid (type_of% HX1.out) := HX1.out
    clear HX1
    go_wp2_with fail
    refine (bitsOf_any k0 _).mono ?_
    rintro r w3 ⟨rfl, rfl⟩
    have HBY3 : Hid (Bts l3) := HB.out.byte
    go_wp2_with fail
    refine (bsigned P (bts k0) (bts_or k0) l3 _ HB.out).mono ?_
    intro r w4 ho
    rcases hx : rSgn (bts k0) l3 with x | ⟨s0, l4⟩
    · obtain ⟨c, rfl⟩ := ho.err hx
      exact ⟨rfl, Out.mkE (HX.out.trans (nxt_err hx)) (HC.out.trans c)⟩
    obtain ⟨c, ⟨v, rfl, rfl⟩, hb⟩ := ho.got hx
    have HX1 : Hid (rGlo l = _) := HX.out.trans (nxt_of hx)
    clear HX
    have HX : Hid (type_of% HX1.out) := HX1.out
    clear HX1
    have xQ1 := xQ.chg c hQP
    clear xQ
    have xQ := xQ1
    clear xQ1
    have HC1 : Hid (Chg P w w4) := HC.out.trans c
    clear HC
    have HC : Hid (Chg P w w4) := HC1.out
    clear HC1
    clear HB
    have HB : Hid (BR w4 P l4) := hb
    clear hb ho
    have HK4 : Hid (type_of% hx) := hx
    clear hx c
    go_wp2_with fail
    refine (bfixed P l4 11 4 _ HB.out).mono ?_
    intro r w5 ho
    rcases hx : rFix 11 4 l4 with x | ⟨u0, l5⟩
    · obtain ⟨c, rfl⟩ := ho.err hx
      exact ⟨rfl, Out.mkE (HX.out.trans (nxt_err hx)) (HC.out.trans c)⟩
    obtain ⟨c, ⟨v, rfl, rfl⟩, hb⟩ := ho.got hx
    have HX1 : Hid (rGlo l = _) := HX.out.trans (nxt_of hx)
    clear HX
    have HX : Hid (type_of% HX1.out) := HX1.out
    clear HX1
    have xQ1 := xQ.chg c hQP
    clear xQ
    have xQ := xQ1
    clear xQ1
    have HC1 : Hid (Chg P w w5) := HC.out.trans c
    clear HC
    have HC : Hid (Chg P w w5) := HC1.out
    clear HC1
    clear HB
    have HB : Hid (BR w5 P l5) := hb
    clear hb ho
    have HK5 : Hid (type_of% hx) := hx
    clear hx c
    obtain ⟨R, hR⟩ : ∃ R, w.heap.size = R := ⟨_, rfl⟩
    rw [hR] at xQ hQP
    obtain ⟨y0, y1, y2⟩ := xQ.cell
    have f0 := xQ.frozen 0
    have f1 := xQ.frozen 1
    have f2 := xQ.frozen 2
    have HFX : Hid _ := (((xQ.set0 (.int .u8 k0)).set1 (.bool (m0 == 1))).set2 (.int .i64 s0))
    have HQ : Hid _ := ((Chg.set R 0 w5 (.int .u8 k0)).trans (Chg.set R 1 _ (.bool (m0 == 1)))).trans (Chg.set R 2 _ (.int .i64 s0))
    have HXQ : Hid (type_of% xQ) := xQ
    clear xQ
    go_wp2
    obtain ⟨q0, q1, q2⟩ := X3.cell HFX.out
    refine bodyPost_ret (v := .agg #[.int .u8 k0, .bool (m0 == 1), .int .i64 s0]) (by simp [results, Tryz.results152, go_sem, q0, q1, q2]) rfl ?_
    have kq : Kp (fun t => t != 63) w5 _ := Kp.chg HXQ.out HQ.out _ (by decide)
    exact Out.mkO HX.out (HC.out.new HQ.out (Nat.le_of_eq hR)) ⟨⟨k0, m0 == 1, s0⟩, rfl, rfl, by have := isK_or (cod_kind.ok _ _ _ HBY.out HK1.out).1; exact ⟨by dsimp only; omega, by dsimp only; omega, inI_sgn ((cod_sgn _ (bts_or k0)).ok _ _ _ HBY3.out HK4.out).1⟩⟩ (HB.out.kp kq (by decide))
theorem bdata (P : Nat) (l : List Int) (w : World) (h : BR w P l) :
    Calls Tryz.prog 161 #[.pointer (some ⟨P, 0, none⟩)] w (Out P vDat (rDat l) w) := by
  have hPw := h.lt
  have bA : Below w.heap.size w (w.alloc (.cells #[.int .i64 0, .string ⟨#[]⟩] 70)) := (Below.refl _ _).alloc (Nat.le_refl _) _
  have HB : Hid (BR (w.alloc (.cells #[.int .i64 0, .string ⟨#[]⟩] 70)) P l) := h.under bA
  have HC : Hid (Chg P w (w.alloc (.cells #[.int .i64 0, .string ⟨#[]⟩] 70))) := Chg.of_below bA
  have xQ : X2 70 (w.alloc (.cells #[.int .i64 0, .string ⟨#[]⟩] 70)) w.heap.size (.int .i64 0) (.string ⟨#[]⟩) := new_block _ _
  have hQP : w.heap.size ≠ P := by omega
  clear bA
  clear h
  go_enter Tryz.func161, Tryz.ntmps161
  have HBY : Hid (Bts l) := HB.out.byte
  go_wp2_with fail
  refine (bplace P l _ HB.out).mono ?_
  intro r w1 ho
  rcases hx : rPlace l with x | ⟨a0, l1⟩
  · obtain ⟨c, rfl⟩ := ho.err hx
    exact ⟨rfl, Out.mkE (nxt_err hx) (HC.out.trans c)⟩
  obtain ⟨c, ⟨v, rfl, rfl⟩, hb⟩ := ho.got hx
  have HX1 : Hid (rDat l = _) := nxt_of hx
  have HX : Hid (type_of% HX1.out) := HX1.out
  clear HX1
  have xQ1 := xQ.chg c hQP
  clear xQ
  have xQ := xQ1
  clear xQ1
  have HC1 : Hid (Chg P w w1) := HC.out.trans c
  clear HC
  have HC : Hid (Chg P w w1) := HC1.out
  clear HC1
  clear HB
  have HB : Hid (BR w1 P l1) := hb
  clear hb ho
  have HK1 : Hid (type_of% hx) := hx
  clear hx c
  have HBY1 : Hid (Bts l1) := HB.out.byte
  go_wp2_with fail
  refine (bcount P 64 l1 _ HB.out).mono ?_
  intro r w2 ho
  rcases hx : rCount 64 l1 with x | ⟨n0, l2⟩
  · obtain ⟨c, rfl⟩ := ho.err hx
    exact ⟨rfl, Out.mkE (HX.out.trans (nxt_err hx)) (HC.out.trans c)⟩
  obtain ⟨c, ⟨v, rfl, rfl⟩, hb⟩ := ho.got hx
  have HX1 : Hid (rDat l = _) := HX.out.trans (nxt_of hx)
  clear HX
  have HX : Hid (type_of% HX1.out) := HX1.out
  clear HX1
  have xQ1 := xQ.chg c hQP
  clear xQ
  have xQ := xQ1
  clear xQ1
  have HC1 : Hid (Chg P w w2) := HC.out.trans c
  clear HC
  have HC : Hid (Chg P w w2) := HC1.out
  clear HC1
  clear HB
  have HB : Hid (BR w2 P l2) := hb
  clear hb ho
  have HK2 : Hid (type_of% hx) := hx
  clear hx c
  have hn0 := ((cod_count 64 (by omega)).ok _ _ _ HBY1.out HK2.out).1.1
  have hfew := HB.out.few
  go_wp2_with fail
  refine (piece_any P l2 n0 hn0 _ HB.out).mono ?_
  intro r w3 ho
  rcases hx : rPiece n0 l2 with x | ⟨s0, l3⟩
  · obtain ⟨c, rfl⟩ := ho.err hx
    exact ⟨rfl, Out.mkE (HX.out.trans (nxt_err hx)) (HC.out.trans c)⟩
  obtain ⟨c, ⟨v, rfl, T3, hT3, rfl⟩, hb⟩ := ho.got hx
  have HX1 : Hid (rDat l = _) := HX.out.trans (nxt_of hx)
  clear HX
  have HX : Hid (type_of% HX1.out) := HX1.out
  clear HX1
  have xQ1 := xQ.chg c hQP
  clear xQ
  have xQ := xQ1
  clear xQ1
  have HC1 : Hid (Chg P w w3) := HC.out.trans c
  clear HC
  have HC : Hid (Chg P w w3) := HC1.out
  clear HC1
  clear HB
  have HB : Hid (BR w3 P l3) := hb
  clear hb ho
  have HT3 : Hid (nums T3 = s0) := hT3
  clear hT3
  have HK3 : Hid (type_of% hx) := hx
  clear hx c
  have hT3 : T3.size ≤ 4096 := by
    have h1 := (piece_len HK3.out).1
    rw [← HT3.out, nums_length] at h1
    omega
  have HZ : Hid (T3.size ≤ maxLen) := by unfold Hid maxLen; omega
  go_wp2_with fail
  refine (clone_c T3 _ (by omega)).mono ?_
  rintro r w4 ⟨rfl, b4⟩
  have xQ1 := xQ.chg (Chg.of_below (P := P) b4) hQP
  clear xQ
  have xQ := xQ1
  have HC1 : Hid (Chg P w w4) := HC.out.trans (Chg.of_below b4)
  clear HC
  have HC : Hid (Chg P w w4) := HC1.out
  have HB1 : Hid (BR w4 P l3) := HB.out.under b4
  clear HB
  have HB : Hid (BR w4 P l3) := HB1.out
  clear HB1 HC1 xQ1 b4 hT3
  obtain ⟨R, hR⟩ : ∃ R, w.heap.size = R := ⟨_, rfl⟩
  rw [hR] at xQ hQP
  obtain ⟨y0, y1⟩ := xQ.cell
  have f0 := xQ.frozen 0
  have f1 := xQ.frozen 1
  have HFX : Hid _ := ((xQ.set0 (.int .i64 a0)).set1 (.string T3))
  have HQ : Hid _ := (Chg.set R 0 w4 (.int .i64 a0)).trans (Chg.set R 1 _ (.string T3))
  have HXQ : Hid (type_of% xQ) := xQ
  clear xQ
  go_wp2
  obtain ⟨q0, q1⟩ := X2.cell HFX.out
  refine bodyPost_ret (v := .agg #[.int .i64 a0, .string T3]) (by simp [results, Tryz.results161, go_sem, q0, q1]) rfl ?_
  have kq : Kp (fun t => t != 70) w4 _ := Kp.chg HXQ.out HQ.out _ (by decide)
  exact Out.mkO HX.out (HC.out.new HQ.out (Nat.le_of_eq hR)) ⟨⟨a0, T3⟩, rfl, by rw [← HT3.out]; rfl, inI_sgn (cod_place.ok _ _ _ HBY.out HK1.out).1, HZ.out⟩ (HB.out.kp kq (by decide))
end Go.Proofs.YtakpkdckajjooaaGreatDoor
