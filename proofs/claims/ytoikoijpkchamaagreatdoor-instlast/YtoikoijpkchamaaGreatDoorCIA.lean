/-
 A memory as it lies there: its pages in a row, how many it may have; what read and write do to bytes.
 What the small methods of a memory do: New, Of, Size, All, Bytes, Put.
 What Put, New and Of do.
-/
import Derived.Test.YtoikoijpkchamaaGreatDoorCVP
import Derived.Test.YtoikoijpkchamaaGreatDoorCVM
import Derived.Test.YtoikoijpkchamaaGreatDoorCVN
import Derived.WalkKit
import Derived.WalkSmall
import Derived.Laws.CopyOwn
import Derived.Laws.BytesArg
import Derived.BigQuiet
import Derived.OwnWalk
import Derived.Laws.MakeOwn
import Derived.Lib.ConvBytes
import Derived.Lib.AppendZerosOnto
set_option maxHeartbeats 4000000
set_option maxRecDepth 1000000
namespace Go.Proofs.YtoikoijpkchamaaGreatDoor
set_option linter.unusedVariables false
open Go.RowKit
theorem Tryz.infoU8m : (Tryz.prog.info? 5).map (fun i => (i.zero, i.size, i.bytes)) = some (some (.int .u8 0), 1, 1) := by kernel_rfl
theorem Tryz.sizeU8 : (Tryz.prog.info? 5).map (·.size) = some 1 := by kernel_rfl
abbrev bC (l : List Int) : List Value := l.map (Value.int .u8)
theorem bC_one (l : List Int) : ∀ v ∈ bC l, v.oneCell' = true := by
 intro v hv
 obtain ⟨x, _, rfl⟩ := List.mem_map.1 hv
 rfl
theorem bC_splice (l x : List Int) (o : Nat) : bC (splice l o x) = splice (bC l) o (bC x) := by
 simp [splice, bC]
theorem splice_more (l d : List Int) (o k m : Nat) (hd : k + m ≤ d.length) (hl : o + (k + m) ≤ l.length) : splice (splice l o (d.take k)) (o + k) ((d.drop k).take m) = splice l o (d.take (k + m)) := by
 unfold splice
 have e1 : (d.take k).length = k := by rw [List.length_take]; omega
 have e2 : ((d.drop k).take m).length = m := by rw [List.length_take, List.length_drop]; omega
 have e3 : (d.take (k + m)).length = k + m := by rw [List.length_take]; omega
 have e4 : (l.take o).length = o := by rw [List.length_take]; omega
 rw [e1, e2, e3]
 have a1 : (l.take o ++ (d.take k ++ l.drop (o + k))).take (o + k) = l.take o ++ d.take k := by
  rw [← List.append_assoc, List.take_append_of_le_length (by rw [List.length_append, e1, e4]; omega), List.take_of_length_le (by rw [List.length_append, e1, e4]; omega)]
 have a2 : (l.take o ++ (d.take k ++ l.drop (o + k))).drop (o + k + m) = l.drop (o + (k + m)) := by
  rw [← List.append_assoc, List.drop_append, List.drop_of_length_le (by rw [List.length_append, e1, e4]; omega), List.nil_append, List.length_append, e1, e4, List.drop_drop]
  congr 1
  omega
 rw [a1, a2, List.take_add]
 simp
theorem splice_none (l : List Int) (o : Nat) (d : List Int) : splice l o (d.take 0) = l := by simp [splice]
structure MA (w : World) (P g n cap : Nat) (most : Int) (L : List Int) : Prop where
 hp : w.heap[P]? = some (.cells #[.slice (some ⟨g, 0, none⟩) n cap, .int .i64 most] 221 (0, 0))
 hg : w.heap[g]? = some (.cells (bC L).toArray 265 (0, 0))
 len : L.length = 256 * cap
 le : n ≤ cap
 ne : g ≠ P
theorem MA.c0 {w : World} {P g n cap : Nat} {most : Int} {L : List Int} (h : MA w P g n cap most L) : w.cell? ⟨P, 0, none⟩ = some (.slice (some ⟨g, 0, none⟩) n cap) := by
 simp [World.cell?, h.hp]
theorem MA.lt {w : World} {P g n cap : Nat} {most : Int} {L : List Int} (h : MA w P g n cap most L) : P < w.heap.size ∧ g < w.heap.size := ⟨(Array.getElem?_eq_some_iff.1 h.hp).1, (Array.getElem?_eq_some_iff.1 h.hg).1⟩
theorem MA.keep {w w' : World} {P g n cap : Nat} {most : Int} {L : List Int} (h : MA w P g n cap most L) {G : Nat} (hw : Chg G w w') (h1 : G ≠ P) (h2 : G ≠ g) : MA w' P g n cap most L :=
 ⟨by rw [hw.block P h.lt.1 (Ne.symm h1)]; exact h.hp, by rw [hw.block g h.lt.2 (Ne.symm h2)]; exact h.hg, h.len, h.le, h.ne⟩
theorem MA.under {w w' : World} {P g n cap : Nat} {most : Int} {L : List Int} (h : MA w P g n cap most L) (hw : Below w.heap.size w w') : MA w' P g n cap most L :=
 ⟨by rw [hw.block P h.lt.1]; exact h.hp, by rw [hw.block g h.lt.2]; exact h.hg, h.len, h.le, h.ne⟩
theorem MA.put {w w' : World} {P g n cap : Nat} {most : Int} {L L' : List Int} (h : MA w P g n cap most L) (hw : Chg g w w') (hg : w'.heap[g]? = some (.cells (bC L').toArray 265 (0, 0))) (hl : L'.length = L.length) : MA w' P g n cap most L' :=
 ⟨by rw [hw.block P h.lt.1 (Ne.symm h.ne)]; exact h.hp, hg, by rw [hl]; exact h.len, h.le, h.ne⟩
def lenS : Value → Nat
 | .slice _ l _ => l
 | _ => 0
theorem row_cell {w : World} {g : Nat} {L : List Int} {t : TypeId} (h : w.heap[g]? = some (.cells (bC L).toArray t (0, 0))) (a m : Nat) : ∀ (j : Nat) (v : Value), (bC ((L.drop a).take m))[j]? = some v → w.cell? ((⟨g, a, none⟩ : Addr).add j) = some v := by
 intro j v hv
 have hadd : (⟨g, a, none⟩ : Addr).add j = ⟨g, a + j, none⟩ := by unfold Addr.add; split <;> simp_all
 rw [hadd]
 have hj : j < m := by
  rcases Nat.lt_or_ge j m with h | h
  ·exact h
  ·rw [List.getElem?_eq_none (by rw [List.length_map, List.length_take]; omega)] at hv; cases hv
 rw [bC, List.getElem?_map, List.getElem?_take_of_lt hj, List.getElem?_drop] at hv
 simp only [World.cell?, h]
 simpa using hv
theorem wp_copyX {P : Program} {w : World} {ops : Array Oper} {rest : List Oper} {o : Oper} {a : Act} {Q : Exit → Act → World → Prop} (hgd : o.guard = none) (d s : Operand) (dT sT : TypeId)
  (ho : o.op = .call { callee := .builtin .copy, args := #[d, s], argTypes := #[dT, sT] }) (elem : TypeId) (hu : P.underlying dT = some (.slice elem)) (hsz : (P.info? elem).map (·.size) = some 1)
  (dp sp : Option Addr) (dLen dCap sLen sCap : Nat) (hd : a.eval d = .slice dp dLen dCap) (hs : a.eval s = .slice sp sLen sCap)
  (g off : Nat) (ad : Addr) (cur : List Value) (t : TypeId) (hg : w.heap[g]? = some (.cells cur.toArray t (0, 0))) (cs : List Value) (m : Nat) (hm : cs.length = m) (hn : m = Nat.min sLen dLen) (hdp : dp = some ⟨g, off, none⟩) (hsp : sp = some ad)
  (hsrc : ∀ j v, cs[j]? = some v → w.cell? (ad.add j) = some v) (hfit : off + cs.length ≤ cur.length) (h1 : ∀ v ∈ cs, v.oneCell' = true)
  (h : ∀ w', Chg g w w' → Hid (w'.heap[g]? = some (.cells (splice cur off cs).toArray t (0, 0))) → wpList P ops Q rest (a.put o.dst (goInt m)) w') : wpList P ops Q (o :: rest) a w := by
 subst hdp hsp hm
 refine wpList_copy_own hgd d s dT sT ho elem hu hsz g off dLen dCap ad sLen sCap hd hs cur.toArray t hg cs hn hsrc (by simpa using hfit) h1 ?_
 refine h _ ⟨rfl, rfl, rfl, by simp [World.setRow], fun k _ hk => setRow_other w g k _ hk⟩ ?_
 exact (show _ = _ by simpa [splice] using setRow_heap w g _ _ t _ hg)
theorem wrap64_few (q : Nat) (h : q ≤ 1000000000) : wrap64 (q : Int) = q := by
 unfold wrap64
 rw [Int.emod_eq_of_lt (by omega) (by omega)]
 omega
theorem addOf (g o j : Nat) : (⟨g, o, none⟩ : Addr).add j = ⟨g, o + j, none⟩ := by unfold Addr.add; split <;> simp_all
theorem wp_indexX {P : Program} {w : World} {ops : Array Oper} {rest : List Oper} {o : Oper} {a : Act} {Q : Exit → Act → World → Prop} (hgd : o.guard = none) (x i : Operand) (t : TypeId) (ho : o.op = .indexAddr t x i)
  (vx vi : Value) (hx : a.eval x = vx) (hi : a.eval i = vi) (p : Value) (hr : (Instr.indexAt t vx vi).run P w = .ok p w) (h : wpList P ops Q rest (a.put o.dst p) w) : wpList P ops Q (o :: rest) a w := by
 refine wpList_plain hgd fun K hK => ?_
 unfold Oper.wp
 simp [execOp, ho, hx, hi, hr, Result.andThen]
 exact hK _ _ h
theorem wp_sliceX {P : Program} {w : World} {ops : Array Oper} {rest : List Oper} {o : Oper} {a : Act} {Q : Exit → Act → World → Prop} (hgd : o.guard = none) (x i : Operand) (t : TypeId) (ho : o.op = .slice t x (some i) none none)
  (vx vi : Value) (hx : a.eval x = vx) (hi : a.eval i = vi) (p : Value) (hr : (Instr.sliceAt t vx (some vi) none none).run P w = .ok p w) (h : wpList P ops Q rest (a.put o.dst p) w) : wpList P ops Q (o :: rest) a w := by
 refine wpList_plain hgd fun K hK => ?_
 unfold Oper.wp
 simp [execOp, ho, hx, hi, hr, Result.andThen]
 exact hK _ _ h
theorem wp_binX {P : Program} {w : World} {ops : Array Oper} {rest : List Oper} {o : Oper} {a : Act} {Q : Exit → Act → World → Prop} (hgd : o.guard = none) (b : BinOp) (t t' : TypeId) (x y : Operand) (ho : o.op = .binOp b t x y t')
  (vx vy : Value) (hx : a.eval x = vx) (hy : a.eval y = vy) (p : Value) (hr : (do eqGuard b t x y vx vy; binOp b t vx vy : Sem Value).run P w = .ok p w) (h : wpList P ops Q rest (a.put o.dst p) w) : wpList P ops Q (o :: rest) a w := by
 refine wpList_plain hgd fun K hK => ?_
 unfold Oper.wp
 simp only [execOp, ho, hx, hy, Sem.run_bind] at hr ⊢
 cases hg : (eqGuard b t x y vx vy).run P w <;> simp only [hg, Result.andThen] at hr ⊢
 ·rw [hr]
  exact hK _ _ h
 all_goals cases hr
theorem quo256 (x y : Operand) (a q : Nat) (h : (a : Int).tdiv 256 = (q : Int)) (hw : wrap64 (q : Int) = q) (w : World) : (do eqGuard .quo 3 x y (.int .i64 (a : Int)) (.int .i64 256); binOp .quo 3 (.int .i64 (a : Int)) (.int .i64 256) : Sem Value).run Tryz.prog w = .ok (.int .i64 (q : Int)) w := by
 simp [go_sem, h]
 rw [IntKind.wrap_i64]
 unfold wrap64 at hw
 exact hw
theorem rem256 (x y : Operand) (a q : Nat) (h : (a : Int).tmod 256 = (q : Int)) (w : World) : (do eqGuard .rem 3 x y (.int .i64 (a : Int)) (.int .i64 256); binOp .rem 3 (.int .i64 (a : Int)) (.int .i64 256) : Sem Value).run Tryz.prog w = .ok (.int .i64 (q : Int)) w := by
 simp [go_sem, h]
theorem indexPage (g n cap q : Nat) (hq : q < n) (w : World) : (Instr.indexAt 219 (.slice (some ⟨g, 0, none⟩) n cap) (.int .i64 (q : Int))).run Tryz.prog w = .ok (.pointer (some ⟨g, q * 256, none⟩)) w := by
 have h1 : (0 : Int) ≤ (q : Int) ∧ (q : Int) < (n : Int) := by omega
 simp only [Instr.indexAt, asIntOf, Tryz.runUnderlying219, Sem.run_bind, Sem.run_pure, Result.andThen_ok]
 rw [if_pos h1]
 simp only [Sem.run_bind, Sem.run_pure, Result.andThen_ok, Tryz.sizeOf265, Int.toNat_natCast, addOf, Nat.zero_add]
theorem slicePage (g o r : Nat) (hr : r < 256) (w : World) : (Instr.sliceAt 265 (.pointer (some ⟨g, o, none⟩)) (some (.int .i64 (r : Int))) none none).run Tryz.prog w = .ok (.slice (some ⟨g, o + r, none⟩) (256 - r) (256 - r)) w := by
 have ha : Tryz.prog.arrayLen 265 = 256 := by unfold Program.arrayLen; rw [Tryz.underlying265]
 have he : Tryz.prog.elem 265 = 5 := by unfold Program.elem; rw [Tryz.underlying265]
 have := run_sliceAt_array_l (P := Tryz.prog) w 265 ⟨g, o, none⟩ (by rw [ha, he]; exact Tryz.underlying265) .i64 (r : Int) (by omega) (by rw [ha]; omega)
 rw [this, he, ha, Tryz.sizeOf5]
 have hn : ¬ (256 = r) := by omega
 simp only [Result.andThen_ok, slicedAt, Int.toNat_natCast]
 rw [if_neg hn, addOf, Nat.mul_one]
theorem splitPage (g n cap a : Nat) (h : a < 256 * n) (hn : n ≤ 8) : ∃ q Q r : Nat, r < 256 ∧ (∀ x y w, (do eqGuard .quo 3 x y (.int .i64 (a : Int)) (.int .i64 256); binOp .quo 3 (.int .i64 (a : Int)) (.int .i64 256) : Sem Value).run Tryz.prog w = .ok (.int .i64 (q : Int)) w) ∧
  (∀ x y w, (do eqGuard .rem 3 x y (.int .i64 (a : Int)) (.int .i64 256); binOp .rem 3 (.int .i64 (a : Int)) (.int .i64 256) : Sem Value).run Tryz.prog w = .ok (.int .i64 (r : Int)) w) ∧
  (∀ W, (Instr.indexAt 219 (.slice (some ⟨g, 0, none⟩) n cap) (.int .i64 (q : Int))).run Tryz.prog W = .ok (.pointer (some ⟨g, Q, none⟩)) W) ∧
  (∀ W, (Instr.sliceAt 265 (.pointer (some ⟨g, Q, none⟩)) (some (.int .i64 (r : Int))) none none).run Tryz.prog W = .ok (.slice (some ⟨g, a, none⟩) (256 - r) (256 - r)) W) ∧ r = a % 256 := by
 have h1 : a / 256 < n := Nat.div_lt_of_lt_mul h
 have h2 : a % 256 < 256 := Nat.mod_lt _ (by decide)
 have haq : a / 256 * 256 + a % 256 = a := by omega
 refine ⟨a / 256, a / 256 * 256, a % 256, h2, fun x y w => quo256 x y a _ ?_ (wrap64_few _ (by omega)) w, fun x y w => rem256 x y a _ ?_ w, indexPage g n cap _ h1, fun W => ?_, rfl⟩
 ·rw [Int.tdiv_eq_ediv_of_nonneg (by omega)]; rfl
 ·rw [Int.tmod_eq_emod_of_nonneg (by omega)]; rfl
 ·have := slicePage g (a / 256 * 256) (a % 256) h2 W
  rwa [haq] at this
theorem mread_any (P g n cap : Nat) (most : Int) (L : List Int) (G o len c at' : Nat) (cur : List Int) (t : TypeId) (w : World) (h : MA w P g n cap most L)
  (hG : w.heap[G]? = some (.cells (bC cur).toArray t (0, 0))) (hGg : G ≠ g) (hGP : G ≠ P) (hn8 : n ≤ 8) (hat : at' + len ≤ 256 * n) (hlc : len ≤ c) (ho : o + len ≤ cur.length) :
  Calls Tryz.prog 202 #[.pointer (some ⟨P, 0, none⟩), .int .i64 (at' : Int), .slice (some ⟨G, o, none⟩) len c] w fun r w' => r = .returned (.tuple #[]) ∧ Chg G w w' ∧ w'.heap[G]? = some (.cells (bC (splice cur o ((L.drop at').take len))).toArray t (0, 0)) := by
 obtain ⟨d, hd⟩ : ∃ d, d = L.drop at' := ⟨_, rfl⟩
 have hdl : d.length = L.length - at' := by rw [hd, List.length_drop]
 rw [← hd]
 have HM : Hid (∀ wr, Chg G w wr → MA wr P g n cap most L) := fun wr hw => h.keep hw hGP hGg
 have HGG : Hid (w.heap[G]? = some (.cells (bC cur).toArray t (0, 0))) := hG
 have HD : Hid (d = L.drop at') := hd
 have hcl := h.len
 have hcle := h.le
 clear h hG hd
 go_enter Tryz.func202, Tryz.ntmps202
 go_wp2
 go_loopw [1, 2] (fun av tv wr => ∃ k a : Nat, ∃ ad : Option Addr, av = .int .i64 (a : Int) ∧ tv = .slice ad (len - k) (c - k) ∧ k ≤ len ∧ Hid (a = at' + k) ∧ Hid (k < len → ad = some ⟨G, o + k, none⟩) ∧ Hid (Chg G w wr) ∧ Hid (wr.heap[G]? = some (.cells (bC (splice cur o (d.take k))).toArray t (0, 0)))) (fun _ tv _ => lenS tv)
 case atStart => exact ⟨0, at', _, rfl, rfl, by omega, rfl, fun _ => rfl, Chg.refl _ _, by unfold Hid; rw [splice_none]; exact HGG.out⟩
 case round =>
  obtain ⟨k, a, ad, rfl, rfl, hk, HA, HAD, HC, HR⟩ := hrel
  have hc0 := (HM.out wr HC.out).c0
  by_cases hlt : k < len
  ·have hlt0 : 0 < len - k := by omega
   have hea := HA.out
   have hap : a < 256 * n := by omega
   obtain ⟨q, Q, r, hr2, HQX, HRX, HIX, HSX, hra⟩ := splitPage g n cap a hap hn8
   have HQX : Hid (type_of% HQX) := HQX
   have HRX : Hid (type_of% HRX) := HRX
   have HIX : Hid (type_of% HIX) := HIX
   have HSX : Hid (type_of% HSX) := HSX
   clear hra
   obtain ⟨m, hmd⟩ : ∃ m, m = Nat.min (256 - r) (len - k) := ⟨_, rfl⟩
   have hm1 : m ≤ 256 - r ∧ m ≤ len - k ∧ 1 ≤ m := by
    rw [hmd]
    exact ⟨Nat.min_le_left _ _, Nat.min_le_right _ _, Nat.le_min.2 ⟨by omega, by omega⟩⟩
   obtain ⟨hm2, hm3, hm4⟩ := hm1
   have HMD : Hid (type_of% hmd) := hmd
   have HX0 : Hid ((L.drop a).take m = (d.drop k).take m) := by unfold Hid; rw [HD.out, List.drop_drop, hea]
   obtain ⟨X, hX⟩ : ∃ X, X = bC ((L.drop a).take m) := ⟨_, rfl⟩
   have hXl : X.length = m := by rw [hX, List.length_map, List.length_take, List.length_drop]; omega
   have HXS : Hid (∀ j v, X[j]? = some v → wr.cell? ((⟨g, a, none⟩ : Addr).add j) = some v) := by
    unfold Hid
    rw [hX]
    exact row_cell (HM.out wr HC.out).hg a m
   have HXO : Hid (∀ v ∈ X, v.oneCell' = true) := by
    unfold Hid
    rw [hX]
    exact bC_one _
   have HFT : Hid (o + k + X.length ≤ (bC (splice cur o (d.take k))).length) := by
    unfold Hid
    rw [List.length_map, length_splice _ _ _ (by rw [List.length_take]; omega), hXl]
    omega
   have HFIN : Hid (splice (bC (splice cur o (d.take k))) (o + k) X = bC (splice cur o (d.take (k + m)))) := by
    unfold Hid
    rw [hX, HX0.out, ← bC_splice, splice_more _ _ _ _ _ (by omega) (by omega)]
   have hwa : wrap64 ((a : Int) + (m : Int)) = ((a + m : Nat) : Int) := by
    have := wrap64_few (a + m) (by omega)
    rw [← this]
    rfl
   have hml : (m : Int) ≤ ((len - k : Nat) : Int) := by omega
   have hm0 : (0 : Int) ≤ (m : Int) := by omega
   have HE1 : Hid (a + m = at' + (k + m)) := by unfold Hid; omega
   have HE2 : Hid (k + m ≤ len) := by unfold Hid; omega
   have HE3 : Hid (c - k = m → ¬ (k + m < len)) := by unfold Hid; omega
   have HE4 : Hid (len - k - m = len - (k + m) ∧ c - k - m = c - (k + m) ∧ len - (k + m) < len - k) := ⟨by omega, by omega, by omega⟩
   have HE5 : Hid (c - k = m → c - (k + m) = 0) := by unfold Hid; omega
   obtain rfl := HAD.out hlt
   clear hmd hea hX hap hcl hcle hm2 hm3 hm4 hr2 hat hlc hn8 hlt hk hdl ho
   go_wp2_with (first | (refine wp_binX rfl .quo 3 3 (.tmp 15) (.const (.int .i64 256)) rfl _ _ rfl rfl _ (HQX.out _ _ _) ?_) | (refine wp_binX rfl .rem 3 3 (.tmp 18) (.const (.int .i64 256)) rfl _ _ rfl rfl _ (HRX.out _ _ _) ?_) | (refine wp_indexX rfl (.tmp 14) (.tmp 16) 219 rfl _ _ rfl rfl _ (HIX.out _) ?_) | (refine wp_sliceX rfl (.tmp 17) (.tmp 19) 265 rfl _ _ rfl rfl _ (HSX.out _) ?_) | (refine wp_copyX rfl (.tmp 10) (.tmp 20) 87 87 rfl 5 Tryz.underlying87 Tryz.sizeU8 _ _ _ _ _ _ rfl rfl G (o + k) ⟨g, a, none⟩ _ t HR.out X m hXl HMD.out rfl rfl HXS.out HFT.out HXO.out ?_))
   intro w2 hc2 HR2
   have HC2 : Hid (Chg G w w2.drew) := (HC.out.trans hc2).drew
   have HR3 : Hid (w2.drew.heap[G]? = some (.cells (bC (splice cur o (d.take (k + m)))).toArray t (0, 0))) := by
    unfold Hid
    have := HR2.out
    rw [HFIN.out] at this
    exact this
   clear HR2 hc2 HXS HFT HXO HMD HQX HRX HIX HSX hc0 HFIN HC HR HA HAD hXl
   by_cases hcm : c - k = m
   ·go_wp2
    go_region
    go_wp2
    go_roundw
    case rel => exact ⟨k + m, a + m, _, by first | rfl | rw [hwa], by rw [HE4.out.1, HE5.out hcm], HE2.out, HE1, fun h => absurd h (HE3.out hcm), HC2, HR3⟩
    case measure => exact (by have := HE4.out; simp only [lenS]; omega)
   ·go_wp2
    go_region
    go_wp2
    go_roundw
    case rel => exact ⟨k + m, a + m, _, by first | rfl | rw [hwa], by rw [HE4.out.1, HE4.out.2.1], HE2.out, HE1, fun _ => by simp [Nat.add_assoc], HC2, HR3⟩
    case measure => exact (by have := HE4.out; simp only [lenS]; omega)
  ·have hz : len - k = 0 := by omega
   have hke : k = len := by omega
   have HKE : Hid (k = len) := hke
   clear hke
   go_wp2
   go_end0
   refine ⟨rfl, HC.out, ?_⟩
   rw [HR.out, HKE.out]
theorem mwrite_any (P g n cap : Nat) (most : Int) (L : List Int) (F fo len c at' : Nat) (d : List Int) (w : World) (h : MA w P g n cap most L)
  (hdl : d.length = len) (hF : F ≠ g) (hFs : F < w.heap.size) (hs : ∀ (j : Nat) (x : Int), d[j]? = some x → w.cell? ⟨F, fo + j, none⟩ = some (.int .u8 x)) (hn8 : n ≤ 8) (hat : at' + len ≤ 256 * n) (hlc : len ≤ c) :
  Calls Tryz.prog 156 #[.pointer (some ⟨P, 0, none⟩), .int .i64 (at' : Int), .slice (some ⟨F, fo, none⟩) len c] w fun r w' => r = .returned (.tuple #[]) ∧ Chg g w w' ∧ w'.heap[g]? = some (.cells (bC (splice L at' d)).toArray 265 (0, 0)) := by
 have HM : Hid (∀ wr, Chg g w wr → wr.cell? ⟨P, 0, none⟩ = some (.slice (some ⟨g, 0, none⟩) n cap)) := fun wr hw => by
  rw [← h.c0]
  exact World.cell?_of_block (w := w) (hw.block P h.lt.1 (Ne.symm h.ne))
 have HSR : Hid (∀ wr, Chg g w wr → ∀ (j : Nat) (x : Int), d[j]? = some x → wr.cell? ⟨F, fo + j, none⟩ = some (.int .u8 x)) := fun wr hw j x hx => by
  rw [← hs j x hx]
  exact World.cell?_of_block (w := w) (hw.block F hFs hF)
 have HGG : Hid (w.heap[g]? = some (.cells (bC L).toArray 265 (0, 0))) := h.hg
 have hcl := h.len
 have hcle := h.le
 clear h hs
 go_enter Tryz.func156, Tryz.ntmps156
 go_wp2
 go_loopw [1, 2] (fun av tv wr => ∃ k a : Nat, ∃ ad : Option Addr, av = .int .i64 (a : Int) ∧ tv = .slice ad (len - k) (c - k) ∧ k ≤ len ∧ Hid (a = at' + k) ∧ Hid (k < len → ad = some ⟨F, fo + k, none⟩) ∧ Hid (Chg g w wr) ∧ Hid (wr.heap[g]? = some (.cells (bC (splice L at' (d.take k))).toArray 265 (0, 0)))) (fun _ tv _ => lenS tv)
 case atStart => exact ⟨0, at', _, rfl, rfl, by omega, rfl, fun _ => rfl, Chg.refl _ _, by unfold Hid; rw [splice_none]; exact HGG.out⟩
 case round =>
  obtain ⟨k, a, ad, rfl, rfl, hk, HA, HAD, HC, HR⟩ := hrel
  have hc0 := HM.out wr HC.out
  by_cases hlt : k < len
  ·have hlt0 : 0 < len - k := by omega
   have hea := HA.out
   have hap : a < 256 * n := by omega
   obtain ⟨q, Q, r, hr2, HQX, HRX, HIX, HSX, hra⟩ := splitPage g n cap a hap hn8
   have HQX : Hid (type_of% HQX) := HQX
   have HRX : Hid (type_of% HRX) := HRX
   have HIX : Hid (type_of% HIX) := HIX
   have HSX : Hid (type_of% HSX) := HSX
   clear hra
   obtain ⟨m, hmd⟩ : ∃ m, m = Nat.min (len - k) (256 - r) := ⟨_, rfl⟩
   have hm1 : m ≤ 256 - r ∧ m ≤ len - k ∧ 1 ≤ m := by
    rw [hmd]
    exact ⟨Nat.min_le_right _ _, Nat.min_le_left _ _, Nat.le_min.2 ⟨by omega, by omega⟩⟩
   obtain ⟨hm2, hm3, hm4⟩ := hm1
   have HMD : Hid (type_of% hmd) := hmd
   obtain ⟨X, hX⟩ : ∃ X, X = bC ((d.drop k).take m) := ⟨_, rfl⟩
   have hXl : X.length = m := by rw [hX, List.length_map, List.length_take, List.length_drop]; omega
   have HXS : Hid (∀ j v, X[j]? = some v → wr.cell? ((⟨F, fo + k, none⟩ : Addr).add j) = some v) := by
    intro j v hv
    rw [hX] at hv
    have hj : j < m := by
     rcases Nat.lt_or_ge j m with h | h
     ·exact h
     ·rw [List.getElem?_eq_none (by rw [List.length_map, List.length_take]; omega)] at hv; cases hv
    rw [bC, List.getElem?_map, List.getElem?_take_of_lt hj, List.getElem?_drop] at hv
    obtain ⟨x, hx, rfl⟩ := Option.map_eq_some_iff.1 hv
    rw [addOf, Nat.add_assoc]
    exact HSR.out wr HC.out _ _ hx
   have HXO : Hid (∀ v ∈ X, v.oneCell' = true) := by
    unfold Hid
    rw [hX]
    exact bC_one _
   have HFT : Hid (a + X.length ≤ (bC (splice L at' (d.take k))).length) := by
    unfold Hid
    rw [List.length_map, length_splice _ _ _ (by rw [List.length_take]; omega), hXl]
    omega
   have HFIN : Hid (splice (bC (splice L at' (d.take k))) a X = bC (splice L at' (d.take (k + m)))) := by
    unfold Hid
    rw [hX, ← bC_splice, hea, splice_more _ _ _ _ _ (by omega) (by omega)]
   have hwa : wrap64 ((a : Int) + (m : Int)) = ((a + m : Nat) : Int) := by
    have := wrap64_few (a + m) (by omega)
    rw [← this]
    rfl
   have hml : (m : Int) ≤ ((len - k : Nat) : Int) := by omega
   have hm0 : (0 : Int) ≤ (m : Int) := by omega
   have HE1 : Hid (a + m = at' + (k + m)) := by unfold Hid; omega
   have HE2 : Hid (k + m ≤ len) := by unfold Hid; omega
   have HE3 : Hid (c - k = m → ¬ (k + m < len)) := by unfold Hid; omega
   have HE4 : Hid (len - k - m = len - (k + m) ∧ c - k - m = c - (k + m) ∧ len - (k + m) < len - k) := ⟨by omega, by omega, by omega⟩
   have HE5 : Hid (c - k = m → c - (k + m) = 0) := by unfold Hid; omega
   obtain rfl := HAD.out hlt
   clear hmd hea hX hap hcl hcle hm2 hm3 hm4 hr2 hat hlc hn8 hlt hk hdl
   go_wp2_with (first | (refine wp_binX rfl .quo 3 3 (.tmp 14) (.const (.int .i64 256)) rfl _ _ rfl rfl _ (HQX.out _ _ _) ?_) | (refine wp_binX rfl .rem 3 3 (.tmp 17) (.const (.int .i64 256)) rfl _ _ rfl rfl _ (HRX.out _ _ _) ?_) | (refine wp_indexX rfl (.tmp 13) (.tmp 15) 219 rfl _ _ rfl rfl _ (HIX.out _) ?_) | (refine wp_sliceX rfl (.tmp 16) (.tmp 18) 265 rfl _ _ rfl rfl _ (HSX.out _) ?_) | (refine wp_copyX rfl (.tmp 19) (.tmp 20) 87 87 rfl 5 Tryz.underlying87 Tryz.sizeU8 _ _ _ _ _ _ rfl rfl g a ⟨F, fo + k, none⟩ _ 265 HR.out X m hXl HMD.out rfl rfl HXS.out HFT.out HXO.out ?_))
   intro w2 hc2 HR2
   have HC2 : Hid (Chg g w w2.drew) := (HC.out.trans hc2).drew
   have HR3 : Hid (w2.drew.heap[g]? = some (.cells (bC (splice L at' (d.take (k + m)))).toArray 265 (0, 0))) := by
    unfold Hid
    have := HR2.out
    rw [HFIN.out] at this
    exact this
   clear HR2 hc2 HXS HFT HXO HMD HQX HRX HIX HSX hc0 HFIN HC HR HA HAD hXl
   by_cases hcm : c - k = m
   ·go_wp2
    go_region
    go_wp2
    go_roundw
    case rel => exact ⟨k + m, a + m, _, by first | rfl | rw [hwa], by rw [HE4.out.1, HE5.out hcm], HE2.out, HE1, fun h => absurd h (HE3.out hcm), HC2, HR3⟩
    case measure => exact (by have := HE4.out; simp only [lenS]; omega)
   ·go_wp2
    go_region
    go_wp2
    go_roundw
    case rel => exact ⟨k + m, a + m, _, by first | rfl | rw [hwa], by rw [HE4.out.1, HE4.out.2.1], HE2.out, HE1, fun _ => by simp [Nat.add_assoc], HC2, HR3⟩
    case measure => exact (by have := HE4.out; simp only [lenS]; omega)
  ·have hz : len - k = 0 := by omega
   have hke : k = len := by omega
   have HKE : Hid (k = len) := hke
   clear hke
   go_wp2
   go_end0
   refine ⟨rfl, HC.out, ?_⟩
   rw [HR.out, HKE.out]
   rw [List.take_of_length_le (by omega)]
end Go.Proofs.YtoikoijpkchamaaGreatDoor
namespace Go.Proofs.YtoikoijpkchamaaGreatDoor
set_option linter.unusedVariables false
open Go.RowKit
theorem wp_makeX {P : Program} {w : World} {ops : Array Oper} {rest : List Oper} {o : Oper} {a : Act} {Q : Exit → Act → World → Prop} (hgd : o.guard = none) (l c : Operand) (t : TypeId) (ho : o.op = .makeSlice t l c)
  (vl vc : Value) (hl : a.eval l = vl) (hc : a.eval c = vc) (p : Value) (w' : World) (hr : (Instr.makeSlice t vl vc).run P w = .ok p w') (h : wpList P ops Q rest (a.put o.dst p) w') : wpList P ops Q (o :: rest) a w := by
 refine wpList_plain hgd fun K hK => ?_
 unfold Oper.wp
 simp [execOp, ho, hl, hc, hr, Result.andThen]
 exact hK _ _ h
theorem wp_convX {P : Program} {w : World} {ops : Array Oper} {rest : List Oper} {o : Oper} {a : Act} {Q : Exit → Act → World → Prop} (hgd : o.guard = none) (x : Operand) (s t : TypeId) (ho : o.op = .convert s t x)
  (vx : Value) (hx : a.eval x = vx) (p : Value) (w' : World) (hr : (convert s t vx).run P w = .ok p w') (h : wpList P ops Q rest (a.put o.dst p) w') : wpList P ops Q (o :: rest) a w := by
 refine wpList_plain hgd fun K hK => ?_
 unfold Oper.wp
 simp [execOp, ho, hx, hr, Result.andThen]
 exact hK _ _ h
def BtsM (l : List Int) : Prop := ∀ x ∈ l, 0 ≤ x ∧ x ≤ 255
theorem numsM_byte (s : ByteArray) : BtsM (nums s) := by
 intro x hx
 obtain ⟨b, _, rfl⟩ := List.mem_map.1 hx
 have := b.toNat_lt
 omega
theorem str_nums (s : ByteArray) : strOfNums (nums s) = s := by
 apply ByteArray.ext
 apply Array.toList_inj.1
 rw [strOfNums_data, nums, List.map_map]
 conv => rhs; rw [← List.map_id s.data.toList]
 apply List.map_congr_left
 intro x _
 simp
structure MB (w : World) (P g n : Nat) (most : Int) (b : List Int) : Prop where
 at' : ∃ cap L, MA w P g n cap most L ∧ L.take (256 * n) = b ∧ BtsM L
 n8 : n ≤ 8
 len : b.length = 256 * n
theorem MB.lt {w : World} {P g n : Nat} {most : Int} {b : List Int} (h : MB w P g n most b) : P < w.heap.size ∧ g < w.heap.size := by
 obtain ⟨cap, L, h, _⟩ := h.at'
 exact h.lt
theorem MB.under {w w' : World} {P g n : Nat} {most : Int} {b : List Int} (h : MB w P g n most b) (hw : Below w.heap.size w w') : MB w' P g n most b := by
 obtain ⟨⟨cap, L, h, h3⟩, h4, h5⟩ := h
 exact ⟨⟨cap, L, h.under hw, h3⟩, h4, h5⟩
theorem MB.c0 {w : World} {P g n : Nat} {most : Int} {b : List Int} (h : MB w P g n most b) : ∃ cap, w.cell? ⟨P, 0, none⟩ = some (.slice (some ⟨g, 0, none⟩) n cap) := by
 obtain ⟨cap, L, h, _⟩ := h.at'
 exact ⟨cap, h.c0⟩
theorem splice_bts {l d : List Int} {o : Nat} (h1 : BtsM l) (h2 : BtsM d) : BtsM (splice l o d) := by
 intro x hx
 unfold splice at hx
 rcases List.mem_append.1 hx with hx | hx
 ·exact h1 x (List.mem_of_mem_take hx)
 ·rcases List.mem_append.1 hx with hx | hx
  ·exact h2 x hx
  ·exact h1 x (List.mem_of_mem_drop hx)
theorem splice_take (l d : List Int) (o n : Nat) (h : o + d.length ≤ n) (hn : n ≤ l.length) : (splice l o d).take n = splice (l.take n) o d := by
 unfold splice
 rw [List.take_append, List.take_append, List.length_take, List.take_take]
 have e1 : min n o = o := by omega
 have e2 : min o l.length = o := by omega
 have e3 : min o n = o := by omega
 rw [e1, e2, List.take_take, e3, List.drop_take, List.take_of_length_le (l := d) (by omega)]
 congr 3
 omega
theorem mul256 (x y : Operand) (n K : Nat) (hn : n ≤ 8) (hK : K = 256 * n) (w : World) : (do eqGuard .mul 3 x y (.int .i64 (n : Int)) (.int .i64 256); binOp .mul 3 (.int .i64 (n : Int)) (.int .i64 256) : Sem Value).run Tryz.prog w = .ok (.int .i64 (K : Int)) w := by
 simp [go_sem]
 rw [IntKind.wrap_i64, hK, Int.emod_eq_of_lt (by omega) (by omega)]
 omega
theorem mlength_any (P g n : Nat) (most : Int) (b : List Int) (w : World) (h : MB w P g n most b) :
  Calls Tryz.prog 158 #[.pointer (some ⟨P, 0, none⟩)] w fun r w' => r = .returned (.int .i64 (b.length : Int)) ∧ w' = w := by
 obtain ⟨cap, hc⟩ := h.c0
 have HMU : Hid (type_of% (fun x y => mul256 x y n b.length h.n8 h.len w)) := fun x y => mul256 x y n b.length h.n8 h.len w
 clear h
 go_enter Tryz.func158, Tryz.ntmps158
 go_wp2_with (refine wp_binX rfl .mul 3 3 (.tmp 7) (.const (.int .i64 256)) rfl _ _ rfl rfl _ (HMU.out _ _) ?_)
 go_ret
 exact ⟨rfl, rfl⟩
def hasB (K a n : Int) : Bool := decide (0 ≤ a ∧ 0 ≤ n ∧ n ≤ K - a)
theorem mhas_any (P g n : Nat) (most : Int) (b : List Int) (a k : Int) (ha : a ≤ 9223372036854775807) (w : World) (h : MB w P g n most b) :
  Calls Tryz.prog 155 #[.pointer (some ⟨P, 0, none⟩), .int .i64 a, .int .i64 k] w fun r w' => r = .returned (.bool (hasB b.length a k)) ∧ w' = w := by
 have hl : b.length ≤ 2048 := by have := h.len; have := h.n8; omega
 have HL := mlength_any P g n most b w h
 clear h
 by_cases h1 : 0 ≤ a
 ·have hw : wrap64 ((b.length : Int) - a) = (b.length : Int) - a := by
   unfold wrap64
   rw [Int.emod_eq_of_lt (by omega) (by omega)]
   omega
  by_cases h2 : 0 ≤ k
  ·have HE : Hid (hasB b.length a k = decide (k ≤ (b.length : Int) - a)) := by unfold Hid hasB; simp [h1, h2]
   go_enter Tryz.func155, Tryz.ntmps155
   go_wp2_with (go_at_call 158; refine HL.mono ?_; rintro r w1 ⟨rfl, rfl⟩)
   go_ret
   exact ⟨by rw [HE.out]; simp, rfl⟩
  ·have HE : Hid (hasB b.length a k = false) := by unfold Hid hasB; simp [h2]
   go_enter Tryz.func155, Tryz.ntmps155
   go_wp2_with (go_at_call 158; refine HL.mono ?_; rintro r w1 ⟨rfl, rfl⟩)
   go_ret
   exact ⟨by rw [HE.out]; rfl, rfl⟩
 ·have HE : Hid (hasB b.length a k = false) := by unfold Hid hasB; simp [h1]
  go_enter Tryz.func155, Tryz.ntmps155
  go_wp2_with (go_at_call 158; refine HL.mono ?_; rintro r w1 ⟨rfl, rfl⟩)
  go_ret
  exact ⟨by rw [HE.out]; rfl, rfl⟩
theorem row_string {w : World} {g len cap : Nat} {L : List Int} {t : TypeId} (h : w.heap[g]? = some (.cells (bC L).toArray t (0, 0))) (hl : L.length = len) :
  (convert 87 9 (.slice (some ⟨g, 0, none⟩) len cap)).run Tryz.prog w = .ok (.string (strOfNums L)) w := by
 refine run_convert_bytes_arg w 87 5 Tryz.underlying87 Tryz.underlying5 g 0 len cap L hl ?_ 9 Tryz.underlying9
 intro i hi
 simp only [World.cell?, h]
 have : i < L.length := by omega
 simp [this]
theorem made_zeros (n : Nat) : madeCells (Value.int .u8 0).cells n = (bC (List.replicate n 0)).toArray := by
 unfold madeCells
 apply Array.toList_inj.1
 rw [Array.toList_map]
 apply List.ext_getElem?
 intro i
 by_cases hi : i < n
 ·simp [bC, hi, Value.cells, Nat.mod_one]
 ·rw [List.getElem?_eq_none (by simp; omega), List.getElem?_eq_none (by simp; omega)]
theorem make_bytes (n : Nat) (hn : n ≤ 2048) (w : World) : (Instr.makeSlice 87 (.int .i64 (n : Int)) (.int .i64 (n : Int))).run Tryz.prog w = .ok (.slice (some ⟨w.heap.size, 0, none⟩) n n) (w.alloc (.cells (bC (List.replicate n 0)).toArray 5)) := by
 obtain ⟨i0, hi, hz0, hz1, hz2⟩ := info_parts Tryz.infoU8m
 have := run_make (P := Tryz.prog) w 87 5 i0 (.int .u8 0) Tryz.underlying87 hi hz0 .i64 .i64 (n : Int) (n : Int) (by omega) (by omega) (by rw [hz2]; omega) (by omega)
 rw [this, hz1, Int.toNat_natCast, Nat.mul_one, made_zeros]
theorem make_row (n : Nat) (hn : n ≤ 2048) (w : World) : ∃ W, Hid ((Instr.makeSlice 87 (.int .i64 (n : Int)) (.int .i64 (n : Int))).run Tryz.prog w = .ok (.slice (some ⟨w.heap.size, 0, none⟩) n n) W) ∧ Below w.heap.size w W ∧ W.heap[w.heap.size]? = some (.cells (bC (List.replicate n 0)).toArray 5 (0, 0)) :=
 ⟨_, make_bytes n hn w, (Below.refl _ _).alloc (Nat.le_refl _) _, heap_alloc_new w _⟩
theorem mtext_any (P g n : Nat) (most : Int) (b : List Int) (a k : Nat) (hk : a + k ≤ b.length) (w : World) (h : MB w P g n most b) :
  Calls Tryz.prog 157 #[.pointer (some ⟨P, 0, none⟩), .int .i64 (a : Int), .int .i64 (k : Int)] w fun r w' => r = .returned (.string (strOfNums ((b.drop a).take k))) ∧ Below w.heap.size w w' := by
 have hl : b.length ≤ 2048 := by have := h.len; have := h.n8; omega
 have hlt := h.lt
 obtain ⟨⟨cap, L, hm, hb, hby⟩, hn8, hlen⟩ := h
 obtain ⟨W, HMK, hbw, hnw⟩ := make_row k (by omega) w
 have HR := mread_any P g n cap most L w.heap.size 0 k k a (List.replicate k 0) 5 W (hm.under hbw) hnw (by omega) (by omega) hn8 (by omega) (Nat.le_refl _) (by simp)
 have HR : Hid (type_of% HR) := HR
 have HBW : Hid (type_of% hbw) := hbw
 have HE : Hid (splice (List.replicate k 0) 0 ((L.drop a).take k) = (b.drop a).take k) := by
  unfold Hid splice
  have e : ((L.drop a).take k).length = k := by rw [List.length_take, List.length_drop, hm.len]; have := hm.le; omega
  rw [e, ← hb, List.drop_take, List.take_take]
  rw [show min k (256 * n - a) = k by omega]
  simp
 have HEL : Hid (((b.drop a).take k).length = k) := by unfold Hid; rw [List.length_take, List.length_drop]; omega
 clear hm hb hby hbw hlt hnw
 go_enter Tryz.func157, Tryz.ntmps157
 go_wp2_with (refine wp_makeX rfl (.tmp 8) (.tmp 8) 87 rfl _ _ rfl rfl _ _ HMK.out ?_)
 refine HR.out.mono ?_
 rintro r w2 ⟨rfl, hc, hg⟩
 have HB2 : Hid (Below w.heap.size w w2) := HBW.out.trans (hc.below (Nat.le_refl _) (by have := HBW.out.size; omega))
 rw [HE.out] at hg
 have HS : Hid (type_of% (row_string (len := k) (cap := k) hg HEL.out)) := row_string (len := k) (cap := k) hg HEL.out
 clear hg hc HR HMK
 go_wp2_with (refine wp_convX rfl (.tmp 14) 87 9 rfl _ rfl _ _ HS.out ?_)
 go_ret
 exact ⟨rfl, HB2.out⟩
theorem mall_any (P g n : Nat) (most : Int) (b : List Int) (w : World) (h : MB w P g n most b) :
  Calls Tryz.prog 104 #[.pointer (some ⟨P, 0, none⟩)] w fun r w' => r = .returned (.string (strOfNums b)) ∧ Below w.heap.size w w' := by
 have HL := mlength_any P g n most b w h
 have HT := mtext_any P g n most b 0 b.length (by omega) w h
 rw [List.drop_zero, List.take_length] at HT
 clear h
 go_enter Tryz.func104, Tryz.ntmps104
 go_wp2_with (first | (go_at_call 158; refine HL.mono ?_; rintro r w1 ⟨rfl, rfl⟩) | (go_at_call 157; refine HT.mono ?_; rintro r w1 ⟨rfl, HB⟩))
 go_ret
 exact ⟨rfl, HB⟩
end Go.Proofs.YtoikoijpkchamaaGreatDoor
namespace Go.Proofs.YtoikoijpkchamaaGreatDoor
set_option linter.unusedVariables false
open Go.RowKit
theorem str_row (s : ByteArray) (w : World) : ∃ W c, Hid ((convert 9 87 (.string s)).run Tryz.prog w = .ok (.slice (some ⟨w.heap.size, 0, none⟩) s.size c) W) ∧ s.size ≤ c ∧ Below w.heap.size w W ∧ w.heap.size < W.heap.size ∧
  ∀ (j : Nat) (x : Int), (nums s)[j]? = some x → W.cell? ⟨w.heap.size, 0 + j, none⟩ = some (.int .u8 x) := by
 refine ⟨_, _, Lib.run_convert_string_bytes w 9 87 5 s Tryz.underlying9 Tryz.underlying87 Tryz.underlying5, grownCap_ge _ _ _ _, ⟨rfl, rfl, rfl, by rw [Lib.bytesWorld_size]; omega, fun k hk => Lib.bytesWorld_at_old w _ s k hk⟩, by rw [Lib.bytesWorld_size]; omega, fun j x hx => ?_⟩
 have hj : j < s.size := by
  rcases Nat.lt_or_ge j s.size with h | h
  ·exact h
  ·rw [List.getElem?_eq_none (by rw [nums_length]; exact h)] at hx; cases hx
 rw [Nat.zero_add, Lib.bytesWorld_cell w _ s j hj]
 unfold nums at hx
 rw [List.getElem?_map] at hx
 obtain ⟨y, hy, rfl⟩ := Option.map_eq_some_iff.1 hx
 simp [List.getD, hy]
theorem MB.put {w w' : World} {P g n : Nat} {most : Int} {b d : List Int} (cap : Nat) (L : List Int) (a : Nat) (hm : MA w P g n cap most L) (hb : L.take (256 * n) = b) (hby : BtsM L) (hn : n ≤ 8) (hl : b.length = 256 * n) (hd : a + d.length ≤ 256 * n) (hdb : BtsM d)
  (hw : Chg g w w') (hg : w'.heap[g]? = some (.cells (bC (splice L a d)).toArray 265 (0, 0))) : MB w' P g n most (splice b a d) := by
 have hle : 256 * n ≤ L.length := by rw [hm.len]; have := hm.le; omega
 refine ⟨⟨cap, splice L a d, hm.put hw hg (length_splice _ _ _ (by omega)), ?_, splice_bts hby hdb⟩, hn, ?_⟩
 ·rw [splice_take _ _ _ _ (by omega) hle, hb]
 ·rw [length_splice _ _ _ (by omega)]; exact hl
theorem mput_yes (P g n : Nat) (most : Int) (b : List Int) (a : Nat) (s : ByteArray) (hk : a + s.size ≤ b.length) (w : World) (h : MB w P g n most b) :
  Calls Tryz.prog 103 #[.pointer (some ⟨P, 0, none⟩), .int .i64 (a : Int), .string s] w fun r w' => r = .returned (.int .i64 0) ∧ MB w' P g n most (splice b a (nums s)) ∧ Chg g w w' := by
 have hl : b.length ≤ 2048 := by have := h.len; have := h.n8; omega
 have HL := mhas_any P g n most b a s.size (by omega) w h
 have he : hasB (b.length : Int) (a : Int) (s.size : Int) = true := by unfold hasB; exact decide_eq_true ⟨by omega, by omega, by omega⟩
 rw [he] at HL
 have hlt := h.lt
 obtain ⟨⟨cap, L, hm, hb, hby⟩, hn8, hlen⟩ := h
 obtain ⟨W, c, HCV, hc, hbw, hsz, hcl⟩ := str_row s w
 have HW := mwrite_any P g n cap most L w.heap.size 0 s.size c a (nums s) W (hm.under hbw) (nums_length s) (by omega) hsz hcl hn8 (by omega) hc
 have HW : Hid (type_of% HW) := HW
 have HF : Hid (∀ w', Chg g W w' → w'.heap[g]? = some (.cells (bC (splice L a (nums s))).toArray 265 (0, 0)) → MB w' P g n most (splice b a (nums s)) ∧ Chg g w w') := fun w' h1 h2 =>
  ⟨MB.put cap L a (hm.under hbw) hb hby hn8 hlen (by rw [nums_length]; omega) (numsM_byte s) h1 h2, (Chg.of_below hbw).trans h1⟩
 clear hm hb hby hcl hbw hsz hc he hlen hlt
 go_enter Tryz.func103, Tryz.ntmps103
 go_wp2_with (first | (go_at_call 155; refine HL.mono ?_; rintro r w1 ⟨rfl, rfl⟩) | (refine wp_convX rfl (.tmp 15) 9 87 rfl _ rfl _ _ HCV.out ?_))
 refine HW.out.mono ?_
 rintro r w2 ⟨rfl, h1, h2⟩
 have HQ : Hid (type_of% (HF.out w2 h1 h2)) := HF.out w2 h1 h2
 clear h1 h2
 go_wp2
 go_ret
 exact ⟨rfl, HQ.out.1, HQ.out.2⟩
theorem mput_no (P g n : Nat) (most : Int) (b : List Int) (a : Int) (ha : a ≤ 9223372036854775807) (s : ByteArray) (hk : hasB b.length a s.size = false) (w : World) (h : MB w P g n most b) :
  Calls Tryz.prog 103 #[.pointer (some ⟨P, 0, none⟩), .int .i64 a, .string s] w fun r w' => r = .returned (.int .i64 23) ∧ w' = w := by
 have HL := mhas_any P g n most b a s.size ha w h
 rw [hk] at HL
 clear h hk
 go_enter Tryz.func103, Tryz.ntmps103
 go_wp2_with (go_at_call 155; refine HL.mono ?_; rintro r w1 ⟨rfl, rfl⟩)
 go_ret
 exact ⟨rfl, rfl⟩
theorem Tryz.zeroPage : (Tryz.prog.info? 265).bind (fun i => i.zero.map fun z => (z.cells, i.size, i.bytes)) = some (Array.replicate 256 (.int .u8 0), 256, 256) := by kernel_rfl
theorem page_parts : ∃ i z, Tryz.prog.info? 265 = some i ∧ i.zero = some z ∧ z.cells = Array.replicate 256 (.int .u8 0) ∧ i.size = 256 ∧ i.bytes = 256 := by
 have h := Tryz.zeroPage
 obtain ⟨i, hi, h2⟩ := Option.bind_eq_some_iff.1 h
 obtain ⟨z, hz, h3⟩ := Option.map_eq_some_iff.1 h2
 simp only [Prod.mk.injEq] at h3
 exact ⟨i, z, hi, hz, h3.1, h3.2.1, h3.2.2⟩
theorem made_any (z : Array Value) (S m : Nat) (v : Value) (hz : z = Array.replicate S v) (hS : 0 < S) : madeCells z m = (List.replicate m v).toArray := by
 subst hz
 unfold madeCells
 apply Array.toList_inj.1
 rw [Array.toList_map]
 apply List.ext_getElem?
 intro i
 by_cases hi : i < m
 ·have : i % S < S := Nat.mod_lt _ hS
  simp [hi, this]
 ·rw [List.getElem?_eq_none (by simp; omega), List.getElem?_eq_none (by simp; omega)]
theorem make_pages (n : Nat) (hn : n ≤ 8) (w : World) : ∃ W, Hid ((Instr.makeSlice 219 (.int .i64 (n : Int)) (.int .i64 (n : Int))).run Tryz.prog w = .ok (.slice (some ⟨w.heap.size, 0, none⟩) n n) W) ∧ Below w.heap.size w W ∧ W.heap[w.heap.size]? = some (.cells (bC (List.replicate (n * 256) 0)).toArray 265 (0, 0)) ∧ W.heap.size = w.heap.size + 1 := by
 obtain ⟨i, z, hi, hz, hzc, hs, hb⟩ := page_parts
 have := run_make (P := Tryz.prog) w 219 265 i z Tryz.underlying219 hi hz .i64 .i64 (n : Int) (n : Int) (by omega) (by omega) (by rw [hb]; omega) (by omega)
 rw [made_any z.cells 256 _ _ hzc (by decide), hs, Int.toNat_natCast] at this
 refine ⟨_, this, (Below.refl _ _).alloc (Nat.le_refl _) _, ?_, World.size_alloc ..⟩
 rw [heap_alloc_new, bC, List.map_replicate]
theorem mnew_yes (p : Nat) (most : Int) (h1 : (p : Int) ≤ most) (h2 : most ≤ 8) (w : World) :
  Calls Tryz.prog 102 #[.int .i64 (p : Int), .int .i64 most] w fun r w' => r = .returned (.tuple #[.pointer (some ⟨w.heap.size + 1, 0, none⟩), .int .i64 0]) ∧ MB w' (w.heap.size + 1) w.heap.size p most (List.replicate (256 * p) 0) ∧ Below w.heap.size w w' := by
 obtain ⟨W, HMK, hbw, hnw, hsz⟩ := make_pages p (by omega) w
 have HF : Hid (∀ w', w' = W.alloc (.cells #[.slice (some ⟨w.heap.size, 0, none⟩) p p, .int .i64 most] 221) → MB w' (w.heap.size + 1) w.heap.size p most (List.replicate (256 * p) 0) ∧ Below w.heap.size w w') := by
  rintro w' rfl
  refine ⟨⟨⟨p, List.replicate (256 * p) 0, ⟨?_, ?_, by simp, Nat.le_refl _, by omega⟩, by simp, ?_⟩, by omega, by simp⟩, hbw.alloc (by omega) _⟩
  ·rw [← hsz]
   exact heap_alloc_new W _
  ·rw [Below.heap_alloc _ _ _ (by omega), hnw, Nat.mul_comm]
  ·intro x hx
   rw [List.eq_of_mem_replicate hx]
   omega
 have hn0 : (0 : Int) ≤ (p : Int) := by omega
 clear hbw hnw
 go_enter Tryz.func102, Tryz.ntmps102
 go_wp2_with (refine wp_makeX rfl (.tmp 17) (.tmp 17) 219 rfl _ _ rfl rfl _ _ HMK.out ?_)
 go_ret2
 refine ⟨?_, HF.out _ rfl⟩
 simp
end Go.Proofs.YtoikoijpkchamaaGreatDoor
