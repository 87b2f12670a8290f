/-
  A memory as it lies there: its pages in a row, how many it may have; what read and write do to bytes.
-/
import Derived.Test.YtomiganjagjabaaRows
import Derived.WalkKit
import Derived.WalkSmall
import Derived.Laws.CopyOwn
import Derived.Laws.BytesArg
import Derived.BigQuiet
import Derived.OwnWalk
namespace Go.Proofs.Ytomiganjagjabaa
open Go.RowKit

theorem Try.infoPage : (Try.prog.info? 75).map (fun i => (i.size, i.bytes)) = some (256, 256) := by kernel_rfl
theorem Try.infoU8 : (Try.prog.info? 5).map (fun i => (i.zero, i.size, i.bytes)) = some (some (.int .u8 0), 1, 1) := by kernel_rfl
theorem Try.sizeU8 : (Try.prog.info? 5).map (·.size) = some 1 := by kernel_rfl
/-- Of what was there only block P may have turned. -/
structure Chg (P : Nat) (w w' : World) : Prop where
  os : w'.os = w.os
  tape : w'.tape = w.tape
  output : w'.output = w.output
  size : w.heap.size ≤ w'.heap.size
  block : ∀ k, k < w.heap.size → k ≠ P → w'.heap[k]? = w.heap[k]?
theorem Chg.refl (P : Nat) (w : World) : Chg P w w := ⟨rfl, rfl, rfl, Nat.le_refl _, fun _ _ _ => rfl⟩
theorem Chg.trans {P : Nat} {a b c : World} (h : Chg P a b) (k : Chg P b c) : Chg P a c :=
  ⟨k.os.trans h.os, k.tape.trans h.tape, k.output.trans h.output, Nat.le_trans h.size k.size, fun i hi hp => (k.block i (Nat.lt_of_lt_of_le hi h.size) hp).trans (h.block i hi hp)⟩
theorem Chg.of_below {P : Nat} {w w' : World} (h : Below w.heap.size w w') : Chg P w w' := ⟨h.os, h.tape, h.output, h.size, fun k hk _ => h.block k hk⟩
theorem Chg.below {P B : Nat} {w w' : World} (h : Chg P w w') (hP : B ≤ P) (hB : B ≤ w.heap.size) : Below B w w' := ⟨h.os, h.tape, h.output, h.size, fun k hk => h.block k (by omega) (by omega)⟩
/-- Cells of bytes. -/
abbrev bC (l : List Int) : List Value := l.map (Value.int .u8)
theorem bC_one (l : List Int) : ∀ v ∈ bC l, v.oneCell' = true := by
  intro v hv
  obtain ⟨x, _, rfl⟩ := List.mem_map.1 hv
  rfl
theorem bC_splice (l x : List Int) (o : Nat) : bC (splice l o x) = splice (bC l) o (bC x) := by
  simp [splice, bC]
theorem splice_more (l d : List Int) (o k m : Nat) (hd : k + m ≤ d.length) (hl : o + (k + m) ≤ l.length) : splice (splice l o (d.take k)) (o + k) ((d.drop k).take m) = splice l o (d.take (k + m)) := by
  unfold splice
  have e1 : (d.take k).length = k := by rw [List.length_take]; omega
  have e2 : ((d.drop k).take m).length = m := by rw [List.length_take, List.length_drop]; omega
  have e3 : (d.take (k + m)).length = k + m := by rw [List.length_take]; omega
  have e4 : (l.take o).length = o := by rw [List.length_take]; omega
  rw [e1, e2, e3]
  have a1 : (l.take o ++ (d.take k ++ l.drop (o + k))).take (o + k) = l.take o ++ d.take k := by
    rw [← List.append_assoc, List.take_append_of_le_length (by rw [List.length_append, e1, e4]; omega), List.take_of_length_le (by rw [List.length_append, e1, e4]; omega)]
  have a2 : (l.take o ++ (d.take k ++ l.drop (o + k))).drop (o + k + m) = l.drop (o + (k + m)) := by
    rw [← List.append_assoc, List.drop_append, List.drop_of_length_le (by rw [List.length_append, e1, e4]; omega), List.nil_append, List.length_append, e1, e4, List.drop_drop]
    congr 1
    omega
  rw [a1, a2, List.take_add]
  simp
theorem splice_none (l : List Int) (o : Nat) (d : List Int) : splice l o (d.take 0) = l := by simp [splice]
/-- The memory at P: n pages, room for cap, its row at g: these bytes. -/
structure MA (w : World) (P g n cap : Nat) (most : Int) (L : List Int) : Prop where
  hp : w.heap[P]? = some (.cells #[.slice (some ⟨g, 0, none⟩) n cap, .int .i64 most] 44 (0, 0))
  hg : w.heap[g]? = some (.cells (bC L).toArray 75 (0, 0))
  len : L.length = 256 * cap
  le : n ≤ cap
  ne : g ≠ P
theorem MA.c0 {w : World} {P g n cap : Nat} {most : Int} {L : List Int} (h : MA w P g n cap most L) : w.cell? ⟨P, 0, none⟩ = some (.slice (some ⟨g, 0, none⟩) n cap) := by
  simp [World.cell?, h.hp]
theorem MA.c1 {w : World} {P g n cap : Nat} {most : Int} {L : List Int} (h : MA w P g n cap most L) : w.cell? ⟨P, 1, none⟩ = some (.int .i64 most) := by
  simp [World.cell?, h.hp]
theorem MA.f {w : World} {P g n cap : Nat} {most : Int} {L : List Int} (h : MA w P g n cap most L) (i : Nat) : w.frozen? ⟨P, i, none⟩ = false := by
  simp [World.frozen?, h.hp]
theorem MA.lt {w : World} {P g n cap : Nat} {most : Int} {L : List Int} (h : MA w P g n cap most L) : P < w.heap.size ∧ g < w.heap.size := ⟨(Array.getElem?_eq_some_iff.1 h.hp).1, (Array.getElem?_eq_some_iff.1 h.hg).1⟩
theorem MA.keep {w w' : World} {P g n cap : Nat} {most : Int} {L : List Int} (h : MA w P g n cap most L) {G : Nat} (hw : Chg G w w') (h1 : G ≠ P) (h2 : G ≠ g) : MA w' P g n cap most L :=
  ⟨by rw [hw.block P h.lt.1 (Ne.symm h1)]; exact h.hp, by rw [hw.block g h.lt.2 (Ne.symm h2)]; exact h.hg, h.len, h.le, h.ne⟩
theorem MA.under {w w' : World} {P g n cap : Nat} {most : Int} {L : List Int} (h : MA w P g n cap most L) (hw : Below w.heap.size w w') : MA w' P g n cap most L :=
  ⟨by rw [hw.block P h.lt.1]; exact h.hp, by rw [hw.block g h.lt.2]; exact h.hg, h.len, h.le, h.ne⟩
theorem MA.put {w w' : World} {P g n cap : Nat} {most : Int} {L L' : List Int} (h : MA w P g n cap most L) (hw : Chg g w w') (hg : w'.heap[g]? = some (.cells (bC L').toArray 75 (0, 0))) (hl : L'.length = L.length) : MA w' P g n cap most L' :=
  ⟨by rw [hw.block P h.lt.1 (Ne.symm h.ne)]; exact h.hp, hg, by rw [hl]; exact h.len, h.le, h.ne⟩
def lenS : Value → Nat
  | .slice _ l _ => l
  | _ => 0
theorem Chg.drew {P : Nat} {w w' : World} (h : Chg P w w') : Chg P w w'.drew := ⟨h.os, h.tape, h.output, h.size, h.block⟩
theorem row_cell {w : World} {g : Nat} {L : List Int} {t : TypeId} (h : w.heap[g]? = some (.cells (bC L).toArray t (0, 0))) (a m : Nat) : ∀ (j : Nat) (v : Value), (bC ((L.drop a).take m))[j]? = some v → w.cell? ((⟨g, a, none⟩ : Addr).add j) = some v := by
  intro j v hv
  have hadd : (⟨g, a, none⟩ : Addr).add j = ⟨g, a + j, none⟩ := by unfold Addr.add; split <;> simp_all
  rw [hadd]
  have hj : j < m := by
    rcases Nat.lt_or_ge j m with h | h
    · exact h
    · rw [List.getElem?_eq_none (by rw [List.length_map, List.length_take]; omega)] at hv; cases hv
  rw [bC, List.getElem?_map, List.getElem?_take_of_lt hj, List.getElem?_drop] at hv
  simp only [World.cell?, h]
  simpa using hv
theorem wp_copyX {P : Program} {w : World} {ops : Array Oper} {rest : List Oper} {o : Oper} {a : Act} {Q : Exit → Act → World → Prop} (hgd : o.guard = none) (d s : Operand) (dT sT : TypeId)
    (ho : o.op = .call { callee := .builtin .copy, args := #[d, s], argTypes := #[dT, sT] }) (elem : TypeId) (hu : P.underlying dT = some (.slice elem)) (hsz : (P.info? elem).map (·.size) = some 1)
    (dp sp : Option Addr) (dLen dCap sLen sCap : Nat) (hd : a.eval d = .slice dp dLen dCap) (hs : a.eval s = .slice sp sLen sCap)
    (g off : Nat) (ad : Addr) (cur : List Value) (t : TypeId) (hg : w.heap[g]? = some (.cells cur.toArray t (0, 0))) (cs : List Value) (m : Nat) (hm : cs.length = m) (hn : m = Nat.min sLen dLen) (hdp : dp = some ⟨g, off, none⟩) (hsp : sp = some ad)
    (hsrc : ∀ j v, cs[j]? = some v → w.cell? (ad.add j) = some v) (hfit : off + cs.length ≤ cur.length) (h1 : ∀ v ∈ cs, v.oneCell' = true)
    (h : ∀ w', Chg g w w' → Hid (w'.heap[g]? = some (.cells (splice cur off cs).toArray t (0, 0))) → wpList P ops Q rest (a.put o.dst (goInt m)) w') : wpList P ops Q (o :: rest) a w := by
  subst hdp hsp hm
  refine wpList_copy_own hgd d s dT sT ho elem hu hsz g off dLen dCap ad sLen sCap hd hs cur.toArray t hg cs hn hsrc (by simpa using hfit) h1 ?_
  refine h _ ⟨rfl, rfl, rfl, by simp [World.setRow], fun k _ hk => setRow_other w g k _ hk⟩ ?_
  exact (show _ = _ by simpa [splice] using setRow_heap w g _ _ t _ hg)
theorem wrap64_few (q : Nat) (h : q ≤ 1000000000) : wrap64 (q : Int) = q := by
  unfold wrap64
  rw [Int.emod_eq_of_lt (by omega) (by omega)]
  omega
theorem addOf (g o j : Nat) : (⟨g, o, none⟩ : Addr).add j = ⟨g, o + j, none⟩ := by unfold Addr.add; split <;> simp_all
theorem wp_indexX {P : Program} {w : World} {ops : Array Oper} {rest : List Oper} {o : Oper} {a : Act} {Q : Exit → Act → World → Prop} (hgd : o.guard = none) (x i : Operand) (t : TypeId) (ho : o.op = .indexAddr t x i)
    (vx vi : Value) (hx : a.eval x = vx) (hi : a.eval i = vi) (p : Value) (hr : (Instr.indexAt t vx vi).run P w = .ok p w) (h : wpList P ops Q rest (a.put o.dst p) w) : wpList P ops Q (o :: rest) a w := by
  refine wpList_plain hgd fun K hK => ?_
  unfold Oper.wp
  simp [execOp, ho, hx, hi, hr, Result.andThen]
  exact hK _ _ h
theorem wp_sliceX {P : Program} {w : World} {ops : Array Oper} {rest : List Oper} {o : Oper} {a : Act} {Q : Exit → Act → World → Prop} (hgd : o.guard = none) (x i : Operand) (t : TypeId) (ho : o.op = .slice t x (some i) none none)
    (vx vi : Value) (hx : a.eval x = vx) (hi : a.eval i = vi) (p : Value) (hr : (Instr.sliceAt t vx (some vi) none none).run P w = .ok p w) (h : wpList P ops Q rest (a.put o.dst p) w) : wpList P ops Q (o :: rest) a w := by
  refine wpList_plain hgd fun K hK => ?_
  unfold Oper.wp
  simp [execOp, ho, hx, hi, hr, Result.andThen]
  exact hK _ _ h
theorem wp_binX {P : Program} {w : World} {ops : Array Oper} {rest : List Oper} {o : Oper} {a : Act} {Q : Exit → Act → World → Prop} (hgd : o.guard = none) (b : BinOp) (t t' : TypeId) (x y : Operand) (ho : o.op = .binOp b t x y t')
    (vx vy : Value) (hx : a.eval x = vx) (hy : a.eval y = vy) (p : Value) (hr : (do eqGuard b t x y vx vy; binOp b t vx vy : Sem Value).run P w = .ok p w) (h : wpList P ops Q rest (a.put o.dst p) w) : wpList P ops Q (o :: rest) a w := by
  refine wpList_plain hgd fun K hK => ?_
  unfold Oper.wp
  simp only [execOp, ho, hx, hy, Sem.run_bind] at hr ⊢
  cases hg : (eqGuard b t x y vx vy).run P w <;> simp only [hg, Result.andThen] at hr ⊢
  · rw [hr]
    exact hK _ _ h
  all_goals cases hr
theorem quo256 (x y : Operand) (a q : Nat) (h : (a : Int).tdiv 256 = (q : Int)) (hw : wrap64 (q : Int) = q) (w : World) : (do eqGuard .quo 3 x y (.int .i64 (a : Int)) (.int .i64 256); binOp .quo 3 (.int .i64 (a : Int)) (.int .i64 256) : Sem Value).run Try.prog w = .ok (.int .i64 (q : Int)) w := by
  simp [go_sem, h]
  rw [IntKind.wrap_i64]
  unfold wrap64 at hw
  exact hw
theorem rem256 (x y : Operand) (a q : Nat) (h : (a : Int).tmod 256 = (q : Int)) (w : World) : (do eqGuard .rem 3 x y (.int .i64 (a : Int)) (.int .i64 256); binOp .rem 3 (.int .i64 (a : Int)) (.int .i64 256) : Sem Value).run Try.prog w = .ok (.int .i64 (q : Int)) w := by
  simp [go_sem, h]
/-- A page's first byte. -/
theorem indexPage (g n cap q : Nat) (hq : q < n) (w : World) : (Instr.indexAt 42 (.slice (some ⟨g, 0, none⟩) n cap) (.int .i64 (q : Int))).run Try.prog w = .ok (.pointer (some ⟨g, q * 256, none⟩)) w := by
  have h1 : (0 : Int) ≤ (q : Int) ∧ (q : Int) < (n : Int) := by omega
  simp only [Instr.indexAt, asIntOf, Try.runUnderlying42, Sem.run_bind, Sem.run_pure, Result.andThen_ok]
  rw [if_pos h1]
  simp only [Sem.run_bind, Sem.run_pure, Result.andThen_ok, Try.sizeOf75, Int.toNat_natCast, addOf, Nat.zero_add]
/-- The bytes of a page from r on. -/
theorem slicePage (g o r : Nat) (hr : r < 256) (w : World) : (Instr.sliceAt 75 (.pointer (some ⟨g, o, none⟩)) (some (.int .i64 (r : Int))) none none).run Try.prog w = .ok (.slice (some ⟨g, o + r, none⟩) (256 - r) (256 - r)) w := by
  have ha : Try.prog.arrayLen 75 = 256 := by unfold Program.arrayLen; rw [Try.underlying75]
  have he : Try.prog.elem 75 = 5 := by unfold Program.elem; rw [Try.underlying75]
  have := run_sliceAt_array_l (P := Try.prog) w 75 ⟨g, o, none⟩ (by rw [ha, he]; exact Try.underlying75) .i64 (r : Int) (by omega) (by rw [ha]; omega)
  rw [this, he, ha, Try.sizeOf5]
  have hn : ¬ (256 = r) := by omega
  simp only [Result.andThen_ok, slicedAt, Int.toNat_natCast]
  rw [if_neg hn, addOf, Nat.mul_one]
/-- The byte at a: its page and its place. -/
theorem splitPage (g n cap a : Nat) (h : a < 256 * n) (hn : n ≤ 8) : ∃ q Q r : Nat, r < 256 ∧ (∀ x y w, (do eqGuard .quo 3 x y (.int .i64 (a : Int)) (.int .i64 256); binOp .quo 3 (.int .i64 (a : Int)) (.int .i64 256) : Sem Value).run Try.prog w = .ok (.int .i64 (q : Int)) w) ∧
    (∀ x y w, (do eqGuard .rem 3 x y (.int .i64 (a : Int)) (.int .i64 256); binOp .rem 3 (.int .i64 (a : Int)) (.int .i64 256) : Sem Value).run Try.prog w = .ok (.int .i64 (r : Int)) w) ∧
    (∀ W, (Instr.indexAt 42 (.slice (some ⟨g, 0, none⟩) n cap) (.int .i64 (q : Int))).run Try.prog W = .ok (.pointer (some ⟨g, Q, none⟩)) W) ∧
    (∀ W, (Instr.sliceAt 75 (.pointer (some ⟨g, Q, none⟩)) (some (.int .i64 (r : Int))) none none).run Try.prog W = .ok (.slice (some ⟨g, a, none⟩) (256 - r) (256 - r)) W) ∧ r = a % 256 := by
  have h1 : a / 256 < n := Nat.div_lt_of_lt_mul h
  have h2 : a % 256 < 256 := Nat.mod_lt _ (by decide)
  have haq : a / 256 * 256 + a % 256 = a := by omega
  refine ⟨a / 256, a / 256 * 256, a % 256, h2, fun x y w => quo256 x y a _ ?_ (wrap64_few _ (by omega)) w, fun x y w => rem256 x y a _ ?_ w, indexPage g n cap _ h1, fun W => ?_, rfl⟩
  · rw [Int.tdiv_eq_ediv_of_nonneg (by omega)]; rfl
  · rw [Int.tmod_eq_emod_of_nonneg (by omega)]; rfl
  · have := slicePage g (a / 256 * 256) (a % 256) h2 W
    rwa [haq] at this
set_option maxHeartbeats 4000000 in
set_option maxRecDepth 1000000 in
theorem mread_any (P g n cap : Nat) (most : Int) (L : List Int) (G o len c at' : Nat) (cur : List Int) (t : TypeId) (w : World) (h : MA w P g n cap most L)
    (hG : w.heap[G]? = some (.cells (bC cur).toArray t (0, 0))) (hGg : G ≠ g) (hGP : G ≠ P) (hn8 : n ≤ 8) (hat : at' + len ≤ 256 * n) (hlc : len ≤ c) (ho : o + len ≤ cur.length) :
    Calls Try.prog 29 #[.pointer (some ⟨P, 0, none⟩), .int .i64 (at' : Int), .slice (some ⟨G, o, none⟩) len c] w fun r w' => r = .returned (.tuple #[]) ∧ Chg G w w' ∧ w'.heap[G]? = some (.cells (bC (splice cur o ((L.drop at').take len))).toArray t (0, 0)) := by
  obtain ⟨d, hd⟩ : ∃ d, d = L.drop at' := ⟨_, rfl⟩
  have hdl : d.length = L.length - at' := by rw [hd, List.length_drop]
  rw [← hd]
  have HM : Hid (∀ wr, Chg G w wr → MA wr P g n cap most L) := fun wr hw => h.keep hw hGP hGg
  have HGG : Hid (w.heap[G]? = some (.cells (bC cur).toArray t (0, 0))) := hG
  have HD : Hid (d = L.drop at') := hd
  have hcl := h.len
  have hcle := h.le
  clear h hG hd
  go_enter Try.func29, Try.ntmps29
  go_wp2
  go_loopw [1, 2] (fun av tv wr => ∃ k a : Nat, ∃ ad : Option Addr, av = .int .i64 (a : Int) ∧ tv = .slice ad (len - k) (c - k) ∧ k ≤ len ∧ Hid (a = at' + k) ∧ Hid (k < len → ad = some ⟨G, o + k, none⟩) ∧ Hid (Chg G w wr) ∧ Hid (wr.heap[G]? = some (.cells (bC (splice cur o (d.take k))).toArray t (0, 0)))) (fun _ tv _ => lenS tv)
  case atStart => exact ⟨0, at', _, rfl, rfl, by omega, rfl, fun _ => rfl, Chg.refl _ _, by unfold Hid; rw [splice_none]; exact HGG.out⟩
  case round =>
    obtain ⟨k, a, ad, rfl, rfl, hk, HA, HAD, HC, HR⟩ := hrel
    have hc0 := (HM.out wr HC.out).c0
    by_cases hlt : k < len
    · have hlt0 : 0 < len - k := by omega
      have hea := HA.out
      have hap : a < 256 * n := by omega
      obtain ⟨q, Q, r, hr2, HQX, HRX, HIX, HSX, hra⟩ := splitPage g n cap a hap hn8
      have HQX : Hid (type_of% HQX) := HQX
      have HRX : Hid (type_of% HRX) := HRX
      have HIX : Hid (type_of% HIX) := HIX
      have HSX : Hid (type_of% HSX) := HSX
      clear hra
      obtain ⟨m, hmd⟩ : ∃ m, m = Nat.min (256 - r) (len - k) := ⟨_, rfl⟩
      have hm1 : m ≤ 256 - r ∧ m ≤ len - k ∧ 1 ≤ m := by
        rw [hmd]
        exact ⟨Nat.min_le_left _ _, Nat.min_le_right _ _, Nat.le_min.2 ⟨by omega, by omega⟩⟩
      obtain ⟨hm2, hm3, hm4⟩ := hm1
      have HMD : Hid (type_of% hmd) := hmd
      have HX0 : Hid ((L.drop a).take m = (d.drop k).take m) := by unfold Hid; rw [HD.out, List.drop_drop, hea]
      obtain ⟨X, hX⟩ : ∃ X, X = bC ((L.drop a).take m) := ⟨_, rfl⟩
      have hXl : X.length = m := by rw [hX, List.length_map, List.length_take, List.length_drop]; omega
      have HXS : Hid (∀ j v, X[j]? = some v → wr.cell? ((⟨g, a, none⟩ : Addr).add j) = some v) := by
        unfold Hid
        rw [hX]
        exact row_cell (HM.out wr HC.out).hg a m
      have HXO : Hid (∀ v ∈ X, v.oneCell' = true) := by
        unfold Hid
        rw [hX]
        exact bC_one _
      have HFT : Hid (o + k + X.length ≤ (bC (splice cur o (d.take k))).length) := by
        unfold Hid
        rw [List.length_map, length_splice _ _ _ (by rw [List.length_take]; omega), hXl]
        omega
      have HFIN : Hid (splice (bC (splice cur o (d.take k))) (o + k) X = bC (splice cur o (d.take (k + m)))) := by
        unfold Hid
        rw [hX, HX0.out, ← bC_splice, splice_more _ _ _ _ _ (by omega) (by omega)]
      have hwa : wrap64 ((a : Int) + (m : Int)) = ((a + m : Nat) : Int) := by
        have := wrap64_few (a + m) (by omega)
        rw [← this]
        rfl
      have hml : (m : Int) ≤ ((len - k : Nat) : Int) := by omega
      have hm0 : (0 : Int) ≤ (m : Int) := by omega
      have HE1 : Hid (a + m = at' + (k + m)) := by unfold Hid; omega
      have HE2 : Hid (k + m ≤ len) := by unfold Hid; omega
      have HE3 : Hid (c - k = m → ¬ (k + m < len)) := by unfold Hid; omega
      have HE4 : Hid (len - k - m = len - (k + m) ∧ c - k - m = c - (k + m) ∧ len - (k + m) < len - k) := ⟨by omega, by omega, by omega⟩
      have HE5 : Hid (c - k = m → c - (k + m) = 0) := by unfold Hid; omega
      obtain rfl := HAD.out hlt
      clear hmd hea hX hap hcl hcle hm2 hm3 hm4 hr2 hat hlc hn8 hlt hk hdl ho
      go_wp2_with (first | (refine wp_binX rfl .quo 3 3 (.tmp 15) (.const (.int .i64 256)) rfl _ _ rfl rfl _ (HQX.out _ _ _) ?_) | (refine wp_binX rfl .rem 3 3 (.tmp 18) (.const (.int .i64 256)) rfl _ _ rfl rfl _ (HRX.out _ _ _) ?_) | (refine wp_indexX rfl (.tmp 14) (.tmp 16) 42 rfl _ _ rfl rfl _ (HIX.out _) ?_) | (refine wp_sliceX rfl (.tmp 17) (.tmp 19) 75 rfl _ _ rfl rfl _ (HSX.out _) ?_) | (refine wp_copyX rfl (.tmp 10) (.tmp 20) 34 34 rfl 5 Try.underlying34 Try.sizeU8 _ _ _ _ _ _ rfl rfl G (o + k) ⟨g, a, none⟩ _ t HR.out X m hXl HMD.out rfl rfl HXS.out HFT.out HXO.out ?_))
      intro w2 hc2 HR2
      have HC2 : Hid (Chg G w w2.drew) := (HC.out.trans hc2).drew
      have HR3 : Hid (w2.drew.heap[G]? = some (.cells (bC (splice cur o (d.take (k + m)))).toArray t (0, 0))) := by
        unfold Hid
        have := HR2.out
        rw [HFIN.out] at this
        exact this
      clear HR2 hc2 HXS HFT HXO HMD HQX HRX HIX HSX hc0 HFIN HC HR HA HAD hXl
      by_cases hcm : c - k = m
      · go_wp2
        go_region
        go_wp2
        go_roundw
        case rel => exact ⟨k + m, a + m, _, by first | rfl | rw [hwa], by rw [HE4.out.1, HE5.out hcm], HE2.out, HE1, fun h => absurd h (HE3.out hcm), HC2, HR3⟩
        case measure => exact (by have := HE4.out; simp only [lenS]; omega)
      · go_wp2
        go_region
        go_wp2
        go_roundw
        case rel => exact ⟨k + m, a + m, _, by first | rfl | rw [hwa], by rw [HE4.out.1, HE4.out.2.1], HE2.out, HE1, fun _ => by simp [Nat.add_assoc], HC2, HR3⟩
        case measure => exact (by have := HE4.out; simp only [lenS]; omega)
    · have hz : len - k = 0 := by omega
      have hke : k = len := by omega
      have HKE : Hid (k = len) := hke
      clear hke
      go_wp2
      go_end0
      refine ⟨rfl, HC.out, ?_⟩
      rw [HR.out, HKE.out]
set_option maxHeartbeats 4000000 in
set_option maxRecDepth 1000000 in
theorem mwrite_any (P g n cap : Nat) (most : Int) (L : List Int) (F fo len c at' : Nat) (d : List Int) (w : World) (h : MA w P g n cap most L)
    (hdl : d.length = len) (hF : F ≠ g) (hFs : F < w.heap.size) (hs : ∀ (j : Nat) (x : Int), d[j]? = some x → w.cell? ⟨F, fo + j, none⟩ = some (.int .u8 x)) (hn8 : n ≤ 8) (hat : at' + len ≤ 256 * n) (hlc : len ≤ c) :
    Calls Try.prog 25 #[.pointer (some ⟨P, 0, none⟩), .int .i64 (at' : Int), .slice (some ⟨F, fo, none⟩) len c] w fun r w' => r = .returned (.tuple #[]) ∧ Chg g w w' ∧ w'.heap[g]? = some (.cells (bC (splice L at' d)).toArray 75 (0, 0)) := by
  have HM : Hid (∀ wr, Chg g w wr → wr.cell? ⟨P, 0, none⟩ = some (.slice (some ⟨g, 0, none⟩) n cap)) := fun wr hw => by
    rw [← h.c0]
    exact World.cell?_of_block (w := w) (hw.block P h.lt.1 (Ne.symm h.ne))
  have HSR : Hid (∀ wr, Chg g w wr → ∀ (j : Nat) (x : Int), d[j]? = some x → wr.cell? ⟨F, fo + j, none⟩ = some (.int .u8 x)) := fun wr hw j x hx => by
    rw [← hs j x hx]
    exact World.cell?_of_block (w := w) (hw.block F hFs hF)
  have HGG : Hid (w.heap[g]? = some (.cells (bC L).toArray 75 (0, 0))) := h.hg
  have hcl := h.len
  have hcle := h.le
  clear h hs
  go_enter Try.func25, Try.ntmps25
  go_wp2
  go_loopw [1, 2] (fun av tv wr => ∃ k a : Nat, ∃ ad : Option Addr, av = .int .i64 (a : Int) ∧ tv = .slice ad (len - k) (c - k) ∧ k ≤ len ∧ Hid (a = at' + k) ∧ Hid (k < len → ad = some ⟨F, fo + k, none⟩) ∧ Hid (Chg g w wr) ∧ Hid (wr.heap[g]? = some (.cells (bC (splice L at' (d.take k))).toArray 75 (0, 0)))) (fun _ tv _ => lenS tv)
  case atStart => exact ⟨0, at', _, rfl, rfl, by omega, rfl, fun _ => rfl, Chg.refl _ _, by unfold Hid; rw [splice_none]; exact HGG.out⟩
  case round =>
    obtain ⟨k, a, ad, rfl, rfl, hk, HA, HAD, HC, HR⟩ := hrel
    have hc0 := HM.out wr HC.out
    by_cases hlt : k < len
    · have hlt0 : 0 < len - k := by omega
      have hea := HA.out
      have hap : a < 256 * n := by omega
      obtain ⟨q, Q, r, hr2, HQX, HRX, HIX, HSX, hra⟩ := splitPage g n cap a hap hn8
      have HQX : Hid (type_of% HQX) := HQX
      have HRX : Hid (type_of% HRX) := HRX
      have HIX : Hid (type_of% HIX) := HIX
      have HSX : Hid (type_of% HSX) := HSX
      clear hra
      obtain ⟨m, hmd⟩ : ∃ m, m = Nat.min (len - k) (256 - r) := ⟨_, rfl⟩
      have hm1 : m ≤ 256 - r ∧ m ≤ len - k ∧ 1 ≤ m := by
        rw [hmd]
        exact ⟨Nat.min_le_right _ _, Nat.min_le_left _ _, Nat.le_min.2 ⟨by omega, by omega⟩⟩
      obtain ⟨hm2, hm3, hm4⟩ := hm1
      have HMD : Hid (type_of% hmd) := hmd
      obtain ⟨X, hX⟩ : ∃ X, X = bC ((d.drop k).take m) := ⟨_, rfl⟩
      have hXl : X.length = m := by rw [hX, List.length_map, List.length_take, List.length_drop]; omega
      have HXS : Hid (∀ j v, X[j]? = some v → wr.cell? ((⟨F, fo + k, none⟩ : Addr).add j) = some v) := by
        intro j v hv
        rw [hX] at hv
        have hj : j < m := by
          rcases Nat.lt_or_ge j m with h | h
          · exact h
          · rw [List.getElem?_eq_none (by rw [List.length_map, List.length_take]; omega)] at hv; cases hv
        rw [bC, List.getElem?_map, List.getElem?_take_of_lt hj, List.getElem?_drop] at hv
        obtain ⟨x, hx, rfl⟩ := Option.map_eq_some_iff.1 hv
        rw [addOf, Nat.add_assoc]
        exact HSR.out wr HC.out _ _ hx
      have HXO : Hid (∀ v ∈ X, v.oneCell' = true) := by
        unfold Hid
        rw [hX]
        exact bC_one _
      have HFT : Hid (a + X.length ≤ (bC (splice L at' (d.take k))).length) := by
        unfold Hid
        rw [List.length_map, length_splice _ _ _ (by rw [List.length_take]; omega), hXl]
        omega
      have HFIN : Hid (splice (bC (splice L at' (d.take k))) a X = bC (splice L at' (d.take (k + m)))) := by
        unfold Hid
        rw [hX, ← bC_splice, hea, splice_more _ _ _ _ _ (by omega) (by omega)]
      have hwa : wrap64 ((a : Int) + (m : Int)) = ((a + m : Nat) : Int) := by
        have := wrap64_few (a + m) (by omega)
        rw [← this]
        rfl
      have hml : (m : Int) ≤ ((len - k : Nat) : Int) := by omega
      have hm0 : (0 : Int) ≤ (m : Int) := by omega
      have HE1 : Hid (a + m = at' + (k + m)) := by unfold Hid; omega
      have HE2 : Hid (k + m ≤ len) := by unfold Hid; omega
      have HE3 : Hid (c - k = m → ¬ (k + m < len)) := by unfold Hid; omega
      have HE4 : Hid (len - k - m = len - (k + m) ∧ c - k - m = c - (k + m) ∧ len - (k + m) < len - k) := ⟨by omega, by omega, by omega⟩
      have HE5 : Hid (c - k = m → c - (k + m) = 0) := by unfold Hid; omega
      obtain rfl := HAD.out hlt
      clear hmd hea hX hap hcl hcle hm2 hm3 hm4 hr2 hat hlc hn8 hlt hk hdl
      go_wp2_with (first | (refine wp_binX rfl .quo 3 3 (.tmp 14) (.const (.int .i64 256)) rfl _ _ rfl rfl _ (HQX.out _ _ _) ?_) | (refine wp_binX rfl .rem 3 3 (.tmp 17) (.const (.int .i64 256)) rfl _ _ rfl rfl _ (HRX.out _ _ _) ?_) | (refine wp_indexX rfl (.tmp 13) (.tmp 15) 42 rfl _ _ rfl rfl _ (HIX.out _) ?_) | (refine wp_sliceX rfl (.tmp 16) (.tmp 18) 75 rfl _ _ rfl rfl _ (HSX.out _) ?_) | (refine wp_copyX rfl (.tmp 19) (.tmp 20) 34 34 rfl 5 Try.underlying34 Try.sizeU8 _ _ _ _ _ _ rfl rfl g a ⟨F, fo + k, none⟩ _ 75 HR.out X m hXl HMD.out rfl rfl HXS.out HFT.out HXO.out ?_))
      intro w2 hc2 HR2
      have HC2 : Hid (Chg g w w2.drew) := (HC.out.trans hc2).drew
      have HR3 : Hid (w2.drew.heap[g]? = some (.cells (bC (splice L at' (d.take (k + m)))).toArray 75 (0, 0))) := by
        unfold Hid
        have := HR2.out
        rw [HFIN.out] at this
        exact this
      clear HR2 hc2 HXS HFT HXO HMD HQX HRX HIX HSX hc0 HFIN HC HR HA HAD hXl
      by_cases hcm : c - k = m
      · go_wp2
        go_region
        go_wp2
        go_roundw
        case rel => exact ⟨k + m, a + m, _, by first | rfl | rw [hwa], by rw [HE4.out.1, HE5.out hcm], HE2.out, HE1, fun h => absurd h (HE3.out hcm), HC2, HR3⟩
        case measure => exact (by have := HE4.out; simp only [lenS]; omega)
      · go_wp2
        go_region
        go_wp2
        go_roundw
        case rel => exact ⟨k + m, a + m, _, by first | rfl | rw [hwa], by rw [HE4.out.1, HE4.out.2.1], HE2.out, HE1, fun _ => by simp [Nat.add_assoc], HC2, HR3⟩
        case measure => exact (by have := HE4.out; simp only [lenS]; omega)
    · have hz : len - k = 0 := by omega
      have hke : k = len := by omega
      have HKE : Hid (k = len) := hke
      clear hke
      go_wp2
      go_end0
      refine ⟨rfl, HC.out, ?_⟩
      rw [HR.out, HKE.out]
      rw [List.take_of_length_le (by omega)]
end Go.Proofs.Ytomiganjagjabaa
