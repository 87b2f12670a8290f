/-
  Folding: the program's own copy of an instruction.
  Folding: the program's own copy of a body.
  Folding: the program's own fold.Body.
-/
import Derived.Test.YtkceplamaocmmaaGreatDoorZPM
import Derived.Test.YtkceplamaocmmaaGreatDoorZPT
import Derived.WalkSpells
import Derived.Lib.SliceRun
import Derived.Laws.MakeOwn
import Derived.Laws.OwnMore
import Derived.Test.YtkceplamaocmmaaGreatDoorZFK3
set_option maxHeartbeats 8000000
set_option maxRecDepth 1000000
namespace Go.Proofs.YtkceplamaocmmaaGreatDoor
open Go.RowKit
set_option linter.unusedVariables false
theorem eql_someN (a : Addr) (n c : Nat) (w : World) : (binOp .eql 32 (.slice (some a) n c) (.slice none 0 0)).run Tryz.prog w = .ok (.bool false) w := by
  simp only [binOp]
  simp [Op.equal, Op.maxDepth, Lib.run_equalIn_slice_nil w 9999 32 2 (some a) n c 0 0 Tryz.underlying32]
theorem fclone (o : Option Addr) (n cap : Nat) (xs : List Int) (w : World) (h : LJ w o n xs) (hnil : o = none → cap = 0) (hcap : n ≤ cap) (hn : n ≤ 1000) :
    Calls Tryz.prog 34 #[.slice o n cap] w fun r w' => ∃ (o' : Option Addr) (cap' : Nat), r = .returned (.slice o' n cap') ∧ w'.ownsRow w.heap.size 2 1 (.slice o' n cap') n (xs.map (Value.int .i64)) ∧ Below w.heap.size w w' := by
  obtain ⟨hlen, hat⟩ := h
  cases o with
  | none =>
    have hc0 : cap = 0 := hnil rfl
    obtain rfl : n = 0 := by omega
    obtain rfl : xs = [] := List.length_eq_zero_iff.1 hlen
    subst hc0
    clear hat hlen hnil
    have hE := run_eql_nil_slice (P := Tryz.prog) w 32 2 none 0 0 0 0 Tryz.underlying32
    go_enter Tryz.func34, Tryz.ntmps34
    go_wp2
    go_ret
    exact ⟨none, 0, rfl, World.ownsRow_nil _ _ _ _, Below.refl _ _⟩
  | some a =>
    obtain ⟨i0, hi, hz0, hz1, hz2⟩ := info_parts Tryz.infoI64
    have hE := eql_someN a n cap w
    have hb : Below w.heap.size w (w.alloc (.cells #[] 2)) := (Below.refl _ _).alloc (Nat.le_refl _) _
    have HOW : Hid (World.ownsRow (w.alloc (.cells #[] 2)) w.heap.size 2 1 (.slice (some ⟨w.heap.size, 0, none⟩) 0 0) 0 []) := World.ownsRow_lit w #[] 0 (Nat.le_refl _) (by unfold maxLen; omega) rfl
    have HB : Hid (type_of% hb) := hb
    by_cases h0 : n = 0
    · subst h0
      obtain rfl : xs = [] := List.length_eq_zero_iff.1 hlen
      clear hat hlen hb hnil
      go_enter Tryz.func34, Tryz.ntmps34
      go_wp2_with (at_builtin; refine fappend_nil rfl _ _ 32 rfl 2 i0 Tryz.underlying32 hi _ _ _ rfl (by omega) (some a) cap rfl ?_)
      go_ret
      exact ⟨some ⟨w.heap.size, 0, none⟩, 0, rfl, HOW.out, HB.out⟩
    · obtain ⟨a', e, hab, hac⟩ := hat.resolve_left h0
      obtain rfl : a = a' := Option.some.inj e
      have HN : Hid (∀ j u, (xs.map (Value.int .i64))[j]? = some u → (w.alloc (.cells #[] 2)).cell? (a.add j) = some u) := fun j u hu => by
        rw [List.getElem?_map] at hu
        obtain ⟨x, hx, rfl⟩ := Option.map_eq_some_iff.1 hu
        have hj : j < n := by rw [← hlen]; exact (List.getElem?_eq_some_iff.1 hx).1
        rw [hb.cell (p := a.add j) (by rw [add_block]; exact hab), hac j hj, List.getD_eq_getElem?_getD, hx]
        rfl
      have HL : Hid (xs.length = n) := hlen
      have hn0 : 0 < n := by omega
      clear hat hlen hb hab hac e hnil
      go_enter Tryz.func34, Tryz.ntmps34
      go_wp2_with (at_builtin; refine wpList_append_lies _ rfl _ _ 32 rfl w.heap.size 2 i0 (.int .i64 0) 1 8 Tryz.underlying32 hi hz0 hz1 hz2 rfl (by decide) _ 0 [] rfl HOW.out a n cap (xs.map (Value.int .i64)) rfl ?hl HN.out ?one hn0 ?a3 ?a4 ?base (w.heap.size + 1) ?sz ?_)
      case hl => rw [List.length_map, HL.out, Nat.mul_one]
      case one => (intro u hu; obtain ⟨x, _, rfl⟩ := List.mem_map.1 hu; rfl)
      case a3 => (unfold maxLen; omega)
      case a4 => omega
      case base => simp
      case sz => simp
      intro g c w2 hown hgrow hat hlt
      have hb2 : Below w.heap.size w w2 := HB.out.grown hgrow (by simp) (fun j hj => (HOW.out.lt j hj).1)
      have HB2 : Hid (type_of% hb2) := hb2
      have HO : Hid (w2.ownsRow w.heap.size 2 1 (.slice (some ⟨g, 0, none⟩) n c) n (xs.map (Value.int .i64))) := hown
      clear hown hgrow hat hlt hb2 HN HOW HB
      go_wp2
      go_ret
      exact ⟨some ⟨g, 0, none⟩, c, rfl, HO.out, HB2.out⟩
theorem fcloneIns (d : InsD) (hn : d.n ≤ 1000) (w : World) (h : d.ok w) :
    Calls Tryz.prog 19 #[.agg #[.int .u8 d.op, .int .i64 d.A, .int .i64 d.B, .slice d.o d.n d.cap]] w fun r w' => ∃ d' : InsD, r = .returned (.agg #[.int .u8 d'.op, .int .i64 d'.A, .int .i64 d'.B, .slice d'.o d'.n d'.cap]) ∧ d'.val = d.val ∧ d'.n = d.n ∧ OkT w' d' ∧ Below w.heap.size w w' := by
  obtain ⟨op, A, B, o, n, cap, xs⟩ := d
  have h0 := h.op0
  have h1 := h.op1
  have ha := h.a
  have hl := h.lj
  have hx := h.nil
  have hc := h.cap
  clear h
  simp only at hn h0 h1 ha hl hx hc
  have HR : Hid (∀ (o' : Option Addr) (cap' : Nat) (w' : World), w'.ownsRow w.heap.size 2 1 (.slice o' n cap') n (xs.map (Value.int .i64)) → OkT w' ⟨op, A, B, o', n, cap', xs⟩) := fun o' cap' w' ho => ownI ho h0 h1 ha
  have xX : XS ((w.alloc (.cells #[.int .u8 op, .int .i64 A, .int .i64 B, .slice o n cap] 34)).alloc (.cells #[.int .u8 0, .int .i64 0, .int .i64 0, .slice none 0 0] 34)) w.heap.size (.int .u8 op) (.int .i64 A) (.int .i64 B) (.slice o n cap) := by
    unfold XS
    rw [Below.heap_alloc _ _ _ (by simp)]
    exact new_block _ _
  have xR : XS ((w.alloc (.cells #[.int .u8 op, .int .i64 A, .int .i64 B, .slice o n cap] 34)).alloc (.cells #[.int .u8 0, .int .i64 0, .int .i64 0, .slice none 0 0] 34)) (w.heap.size + 1) (.int .u8 0) (.int .i64 0) (.int .i64 0) (.slice none 0 0) := by
    have := new_block (w.alloc (.cells #[.int .u8 op, .int .i64 A, .int .i64 B, .slice o n cap] 34)) (.cells #[.int .u8 0, .int .i64 0, .int .i64 0, .slice none 0 0] 34)
    rw [World.size_alloc] at this
    exact this
  have hb2 : Below w.heap.size w ((w.alloc (.cells #[.int .u8 op, .int .i64 A, .int .i64 B, .slice o n cap] 34)).alloc (.cells #[.int .u8 0, .int .i64 0, .int .i64 0, .slice none 0 0] 34)) := ((Below.refl _ _).alloc (Nat.le_refl _) _).alloc (by simp) _
  have hsz2 : ((w.alloc (.cells #[.int .u8 op, .int .i64 A, .int .i64 B, .slice o n cap] 34)).alloc (.cells #[.int .u8 0, .int .i64 0, .int .i64 0, .slice none 0 0] 34)).heap.size = w.heap.size + 2 := by simp
  have hcl := fclone o n cap xs _ (hl.below hb2) hx hc hn
  have HB0 : Hid (type_of% hb2) := hb2
  have HCL : Hid (type_of% hcl) := hcl
  have HSZ : Hid (type_of% hsz2) := hsz2
  have HXX : Hid (type_of% xX) := xX
  have HXR : Hid (type_of% xR) := xR
  clear hl hb2 hcl hsz2 xX xR hx h0 h1 ha
  go_enter Tryz.func19, Tryz.ntmps19
  go_wp2_with fail
  refine HCL.out.mono ?_
  rintro r w1 ⟨o', cap', rfl, hown, hb1⟩
  rw [HSZ.out] at hown
  have HB : Hid (Below w.heap.size w w1) := HB0.out.trans (hb1.mono (by rw [HSZ.out]; omega))
  have xX := HXX.out.under hb1
  have xR := HXR.out.under hb1
  have hfar : ∀ P, P < w.heap.size + 2 → (Value.slice o' n cap').ownBlock ≠ some P := fun P hP e => by
    have := (hown.lt P e).1
    omega
  have HOW : Hid (World.ownsRow _ w.heap.size 2 1 (.slice o' n cap') n (xs.map (Value.int .i64))) := ownsRow_down (own_put (own_put (own_put (own_put (own_put hown w.heap.size 3 (.slice o' n cap') (hfar _ (by omega))) (w.heap.size + 1) 0 (.int .u8 op) (hfar _ (by omega))) (w.heap.size + 1) 1 (.int .i64 A) (hfar _ (by omega))) (w.heap.size + 1) 2 (.int .i64 B) (hfar _ (by omega))) (w.heap.size + 1) 3 (.slice o' n cap') (hfar _ (by omega))) (by omega)
  clear hown hb1 hfar HB0 HXX HXR HCL
  obtain ⟨x0, x1, x2, x3⟩ := xX.cell
  have fX := xX.frozen 3
  obtain ⟨y0, y1, y2, y3⟩ := xR.cell
  have f0 := xR.frozen 0
  have f1 := xR.frozen 1
  have f2 := xR.frozen 2
  have f3 := xR.frozen 3
  have HFX : Hid (XS _ (w.heap.size + 1) _ _ _ _) := ((((xR.far w.heap.size 3 (.slice o' n cap') (by omega)).set0 (.int .u8 op)).set1 (.int .i64 A)).set2 (.int .i64 B)).set3 (.slice o' n cap')
  have HBX : Hid (Below w.heap.size w _) := ((((HB.out.setCell (p := ⟨w.heap.size, 3, none⟩) (Nat.le_refl _) (.slice o' n cap')).setCell (p := ⟨w.heap.size + 1, 0, none⟩) (by simp) (.int .u8 op)).setCell (p := ⟨w.heap.size + 1, 1, none⟩) (by simp) (.int .i64 A)).setCell (p := ⟨w.heap.size + 1, 2, none⟩) (by simp) (.int .i64 B)).setCell (p := ⟨w.heap.size + 1, 3, none⟩) (by simp) (.slice o' n cap')
  clear xX xR HB
  go_wp2
  obtain ⟨q0, q1, q2, q3⟩ := XS.cell HFX.out
  refine bodyPost_ret (v := .agg #[(.int .u8 op), (.int .i64 A), (.int .i64 B), (.slice o' n cap')]) (by simp [results, Tryz.results19, go_sem, q0, q1, q2, q3]) rfl ?_
  exact ⟨⟨op, A, B, o', n, cap', xs⟩, rfl, rfl, rfl, HR.out o' cap' _ HOW.out, HBX.out⟩
end Go.Proofs.YtkceplamaocmmaaGreatDoor
namespace Go.Proofs.YtkceplamaocmmaaGreatDoor
open Go.RowKit
set_option linter.unusedVariables false
def zeroD : InsD := mkD 0 0
theorem zeroD_ok (w : World) : OkT w zeroD := ⟨mkD_ok w 0 0 (by omega) (by omega) (by omega), fun h => absurd h (by show ¬ 0 < 0; omega)⟩
theorem made_ins (n : Nat) : madeCells (Value.agg #[.int .u8 0, .int .i64 0, .int .i64 0, .slice none 0 0]).cells (n * 4) = (cellsOf (List.replicate n zeroD)).toArray := by
  apply Array.toList_inj.1
  unfold madeCells
  rw [Array.toList_map]
  apply List.ext_getElem?
  intro i
  have hl : (cellsOf (List.replicate n zeroD)).length = n * 4 := by rw [cells_len, List.length_replicate]
  have hs : (Value.agg #[.int .u8 0, .int .i64 0, .int .i64 0, .slice none 0 0]).cells = #[.int .u8 0, .int .i64 0, .int .i64 0, .slice none 0 0] := rfl
  rw [hs]
  by_cases hlt : i < n * 4
  · have e := cellsOf_at (List.replicate n zeroD) (i / 4) (i % 4) (by simp; omega) (by omega)
    rw [show i / 4 * 4 + i % 4 = i by omega] at e
    simp only [List.getElem?_map, Array.toList_range, List.getElem?_range hlt, Option.map_some]
    rw [e, List.getElem_replicate]
    have h4 : i % 4 = 0 ∨ i % 4 = 1 ∨ i % 4 = 2 ∨ i % 4 = 3 := by omega
    show some (#[Value.int .u8 0, .int .i64 0, .int .i64 0, .slice none 0 0][i % 4]!) = _
    rcases h4 with h4 | h4 | h4 | h4 <;> rw [h4] <;> rfl
  · rw [List.getElem?_eq_none (by simp; omega), List.getElem?_eq_none (by simp [hl]; omega)]
theorem make_ins (n : Nat) (hn : n ≤ 1000) (w : World) : (Instr.makeSlice 22 (.int .i64 (n : Int)) (.int .i64 (n : Int))).run Tryz.prog w = .ok (.slice (some ⟨w.heap.size, 0, none⟩) n n) (w.alloc (.cells (cellsOf (List.replicate n zeroD)).toArray 34)) := by
  obtain ⟨i0, hi, hz0, hz1, hz2⟩ := info_parts Tryz.infoIns
  have := run_make (P := Tryz.prog) w 22 34 i0 (.agg #[.int .u8 0, .int .i64 0, .int .i64 0, .slice none 0 0]) Tryz.underlying22 hi hz0 .i64 .i64 (n : Int) (n : Int) (by omega) (by omega) (by rw [hz2]; omega) (by omega)
  rw [this, hz1, Int.toNat_natCast, made_ins]
theorem fmakeX {P : Program} {w : World} {ops : Array Oper} {rest : List Oper} {o : Oper} {a : Act} {Q : Exit → Act → World → Prop} (hgd : o.guard = none) (l c : Operand) (t : TypeId) (ho : o.op = .makeSlice t l c)
    (vl vc : Value) (hl : a.eval l = vl) (hc : a.eval c = vc) (p : Value) (w' : World) (hr : (Instr.makeSlice t vl vc).run P w = .ok p w') (h : wpList P ops Q rest (a.put o.dst p) w') : wpList P ops Q (o :: rest) a w := by
  refine wpList_plain hgd fun K hK => ?_
  unfold Oper.wp
  simp [execOp, ho, hl, hc, hr, Result.andThen]
  exact hK _ _ h
theorem frow_set {w : World} {N g n cap k : Nat} {T : TypeId} {xs : List Value} (h : w.ownsRow N T k (.slice (some ⟨g, 0, none⟩) n cap) n xs) (i : Nat) (v : Value) : (w.setCell ⟨g, i, none⟩ v).ownsRow N T k (.slice (some ⟨g, 0, none⟩) n cap) n (xs.set i v) := by
  obtain ⟨hl, hown⟩ := h
  rcases hown with ⟨hv, _⟩ | ⟨g', c', cur, hv, hB, hg, h1, h2, h3, h4⟩
  · simp at hv
  simp only [Value.slice.injEq, Option.some.injEq, Addr.mk.injEq, and_true, true_and] at hv
  obtain ⟨rfl, rfl⟩ := hv
  refine ⟨by rw [List.length_set]; exact hl, Or.inr ⟨g, cap, cur.setIfInBounds i v, rfl, hB, ?_, h1, h2, by simpa using h3, ?_⟩⟩
  · rw [setCell_eq_setRow w g i cur T (0, 0) _ hg]
    exact setRow_heap w g cur _ _ _ hg
  · rw [Array.toList_setIfInBounds, ← h4, List.take_set]
theorem cells_set : ∀ (L : List InsD) (j : Nat) (d : InsD), j < L.length → ((((cellsOf L).set (j * 4) (.int .u8 d.op)).set (j * 4 + 1) (.int .i64 d.A)).set (j * 4 + 2) (.int .i64 d.B)).set (j * 4 + 3) (.slice d.o d.n d.cap) = cellsOf (L.set j d)
  | [], j, d, h => absurd h (by simp)
  | x :: L, 0, d, h => by
    unfold cellsOf
    simp [InsD.cells, List.flatMap_cons]
  | x :: L, j + 1, d, h => by
    have ih := cells_set L j d (by simpa using h)
    unfold cellsOf at ih ⊢
    rw [List.set_cons_succ, List.flatMap_cons, List.flatMap_cons, ← ih]
    have e : ∀ (r : Nat) (v : Value) (ys : List Value), (x.cells ++ ys).set ((j + 1) * 4 + r) v = x.cells ++ ys.set (j * 4 + r) v := fun r v ys => by
      rw [List.set_append_right _ _ (by simp [InsD.cells]; omega)]
      congr 2
      simp [InsD.cells]
      omega
    have e0 := e 0
    simp only [Nat.add_zero] at e0
    rw [e0, e 1, e 2, e 3]
theorem set_far (w : World) (g i j : Nat) (v : Value) (h : j ≠ g) : (w.setCell ⟨g, i, none⟩ v).heap[j]? = w.heap[j]? := by
  simp [World.setCell, Array.getElem?_modify, Ne.symm h]
theorem set_size (w : World) (g i : Nat) (v : Value) : (w.setCell ⟨g, i, none⟩ v).heap.size = w.heap.size := by
  simp [World.setCell]
def putI (w : World) (g j : Nat) (d : InsD) : World := (((w.setCell ⟨g, j * 4, none⟩ (.int .u8 d.op)).setCell ⟨g, j * 4 + 1, none⟩ (.int .i64 d.A)).setCell ⟨g, j * 4 + 2, none⟩ (.int .i64 d.B)).setCell ⟨g, j * 4 + 3, none⟩ (.slice d.o d.n d.cap)
theorem IR.put {w : World} {B n cap g j : Nat} {L : List InsD} {d : InsD} (h : IR w B (some ⟨g, 0, none⟩) n cap L) (hj : j < n) (hd : OkT w d) : IR (putI w g j d) B (some ⟨g, 0, none⟩) n cap (L.set j d) := by
  have hsz : (putI w g j d).heap.size = w.heap.size := by unfold putI; rw [set_size, set_size, set_size, set_size]
  have hfar : ∀ k, k ≠ g → (putI w g j d).heap[k]? = w.heap[k]? := fun k hk => by unfold putI; rw [set_far _ _ _ _ _ hk, set_far _ _ _ _ _ hk, set_far _ _ _ _ _ hk, set_far _ _ _ _ _ hk]
  have hg : ∃ cur, w.heap[g]? = some (.cells cur 34 (0, 0)) := by
    rcases h.own.2 with ⟨hv, _⟩ | ⟨g', c, cur, hv, _, hg, _⟩
    · simp at hv
    · simp only [Value.slice.injEq, Option.some.injEq, Addr.mk.injEq, and_true] at hv
      obtain ⟨⟨rfl, _⟩, _⟩ := hv
      exact ⟨cur, hg⟩
  obtain ⟨cg, hg⟩ := hg
  have key : ∀ (k : Nat) (cur : Array Value) (f : Nat × Nat), w.heap[k]? = some (.cells cur 2 f) → (putI w g j d).heap[k]? = w.heap[k]? := fun k cur f hk => hfar k fun e => by
    rw [e, hg] at hk
    simp at hk
  have hmem : ∀ x ∈ L.set j d, OkT w x := fun x hx => by
    rcases List.mem_or_eq_of_mem_set hx with hx | rfl
    · exact ⟨h.ok x hx, h.ty x hx⟩
    · exact hd
  refine ⟨?_, by rw [List.length_set]; exact h.len, fun x hx => ?_, fun x hx h0 => ?_⟩
  · have := frow_set (frow_set (frow_set (frow_set h.own (j * 4) (.int .u8 d.op)) (j * 4 + 1) (.int .i64 d.A)) (j * 4 + 2) (.int .i64 d.B)) (j * 4 + 3) (.slice d.o d.n d.cap)
    rw [cells_set L j d (by rw [h.len]; exact hj)] at this
    exact this
  · obtain ⟨h1, h2⟩ := hmem x hx
    refine ok_keep h1 (by rw [hsz]; exact Nat.le_refl _) fun h0 a ha => ?_
    obtain ⟨g', cur, f, e, hc⟩ := h2 h0
    rw [ha] at e
    cases e
    exact key _ _ _ hc
  · obtain ⟨h1, h2⟩ := hmem x hx
    obtain ⟨g', cur, f, e, hc⟩ := h2 h0
    exact ⟨g', cur, f, e, by rw [key _ _ _ hc]; exact hc⟩
theorem putI_below {B g j : Nat} {w w' : World} {d : InsD} (h : Below B w w') (hg : B ≤ g) : Below B w (putI w' g j d) :=
  (((h.setCell (p := ⟨g, _, none⟩) hg _).setCell (p := ⟨g, _, none⟩) hg _).setCell (p := ⟨g, _, none⟩) hg _).setCell (p := ⟨g, _, none⟩) hg _
theorem IR.cells4 {w : World} {B n cap g : Nat} {L : List InsD} (h : IR w B (some ⟨g, 0, none⟩) n cap L) (j : Nat) (hj : j < n) : ∃ d : InsD, (w.cell? ⟨g, j * 4, none⟩ = some (.int .u8 d.op) ∧ w.cell? ⟨g, j * 4 + 1, none⟩ = some (.int .i64 d.A) ∧ w.cell? ⟨g, j * 4 + 2, none⟩ = some (.int .i64 d.B) ∧ w.cell? ⟨g, j * 4 + 3, none⟩ = some (.slice d.o d.n d.cap)) ∧ (w.frozen? ⟨g, j * 4, none⟩ = false ∧ w.frozen? ⟨g, j * 4 + 1, none⟩ = false ∧ w.frozen? ⟨g, j * 4 + 2, none⟩ = false ∧ w.frozen? ⟨g, j * 4 + 3, none⟩ = false) := by
  have hl : j < L.length := by rw [h.len]; exact hj
  have q : ∀ r, r < 4 → w.cell? ⟨g, j * 4 + r, none⟩ = (L[j]).cells[r]? := fun r hr => by
    rw [← cellsOf_at L j r hl hr, ← h.own.cellAt (j * 4 + r) (by omega)]
  exact ⟨L[j], ⟨q 0 (by omega), q 1 (by omega), q 2 (by omega), q 3 (by omega)⟩, h.own.frozenAt _, h.own.frozenAt _, h.own.frozenAt _, h.own.frozenAt _⟩
theorem fcloneAll (o : Option Addr) (cap n : Nat) (L : List InsD) (w : World) (h : LD w o L) (hl : L.length = n) (hn : n ≤ 1000) (hk : ∀ d ∈ L, d.n ≤ 1000) :
    Calls Tryz.prog 18 #[.slice o n cap, .func (.func 19) #[] #[]] w fun r w' => ∃ (M : List InsD) (o' : Option Addr), r = .returned (.slice o' n n) ∧ LD w' o' M ∧ M.length = n ∧ M.map InsD.val = L.map InsD.val ∧ Below w.heap.size w w' := by
  have HMK := make_ins n hn w
  have HLD : Hid (LD w o L) := h
  have HL : Hid (L.length = n) := hl
  have HK : Hid (∀ d ∈ L, d.n ≤ 1000) := hk
  have HW1 : Hid (IR (w.alloc (.cells (cellsOf (List.replicate n zeroD)).toArray 34)) w.heap.size (some ⟨w.heap.size, 0, none⟩) n n (List.replicate n zeroD)) := by
    refine ⟨?_, by simp, fun x hx => ?_, fun x hx h0 => ?_⟩
    · have := World.ownsRow_lit (base := w.heap.size) (size := 4) (e := 34) w (cellsOf (List.replicate n zeroD)).toArray n (Nat.le_refl _) (by unfold maxLen; omega) (by simp [cells_len])
      simpa using this
    · obtain rfl := List.eq_of_mem_replicate hx
      exact (zeroD_ok _).1
    · obtain rfl := List.eq_of_mem_replicate hx
      exact absurd h0 (by show ¬ 0 < 0; omega)
  have HB1 : Hid (Below w.heap.size w (w.alloc (.cells (cellsOf (List.replicate n zeroD)).toArray 34))) := (Below.refl _ _).alloc (Nat.le_refl _) _
  clear h hl hk
  go_enter Tryz.func18, Tryz.ntmps18
  go_wp2_with (refine fmakeX rfl _ _ 22 rfl (.int .i64 (n : Int)) (.int .i64 (n : Int)) rfl rfl _ _ HMK ?_)
  generalize w.alloc (.cells (cellsOf (List.replicate n zeroD)).toArray 34) = v at *
  clear HMK
  go_wp2
  go_loopw [13] (fun iv wr => ∃ j : Nat, iv = .int .i64 (j : Int) ∧ j ≤ n ∧ Hid (∃ M : List InsD, M.length = j ∧ M.map InsD.val = (L.take j).map InsD.val ∧ IR wr w.heap.size (some ⟨w.heap.size, 0, none⟩) n n (M ++ List.replicate (n - j) zeroD)) ∧ Hid (Below w.heap.size w wr)) (fun iv _ => n - (intOf iv).toNat)
  case atStart => exact ⟨0, rfl, by omega, ⟨[], rfl, rfl, HW1.out⟩, HB1⟩
  case round =>
    clear HW1 HB1
    obtain ⟨j, rfl, hj, HM, HB⟩ := hrel
    by_cases hlt : j < n
    · obtain ⟨b, f, rfl, hbw, hcl⟩ : ∃ b f, o = some ⟨b, f, none⟩ ∧ b < w.heap.size ∧ _ := by
        rcases HLD.out.2 with h0 | h0
        · have := HL.out; rw [h0] at this; simp at this; omega
        · exact h0
      have hjl : j < L.length := by rw [HL.out]; exact hlt
      obtain ⟨m0, m1, m2, m3⟩ := hcl j hjl
      have e0 := (HB.out.cell (p := ⟨b, f + j * 4, none⟩) hbw).trans m0
      have e1 := (HB.out.cell (p := ⟨b, f + j * 4 + 1, none⟩) hbw).trans m1
      have e2 := (HB.out.cell (p := ⟨b, f + j * 4 + 2, none⟩) hbw).trans m2
      have e3 := (HB.out.cell (p := ⟨b, f + j * 4 + 3, none⟩) hbw).trans m3
      have HOK : Hid ((L[j]).ok w ∧ (L[j]).n ≤ 1000) := ⟨HLD.out.1 _ (List.getElem_mem hjl), HK.out _ (List.getElem_mem hjl)⟩
      have HV : Hid ((L.take (j + 1)).map InsD.val = (L.take j).map InsD.val ++ [(L[j]).val]) := by unfold Hid; rw [List.take_succ_eq_append_getElem hjl, List.map_append]; rfl
      clear m0 m1 m2 m3 hcl
      generalize L[j] = d at *
      have hj0 : (0 : Int) ≤ (j : Int) := by omega
      have hj1 : (j : Int) < (n : Int) := by omega
      go_wp2_with fail
      refine (fcloneIns d HOK.out.2 _ (HOK.out.1.below (HB.out.alloc HB.out.size _))).mono ?_
      rintro r w3 ⟨d', rfl, hv, hn', hok, b3⟩
      have b13 : Below wr.heap.size wr w3 := ((Below.refl _ _).alloc (Nat.le_refl _) _).trans (b3.mono (by simp))
      obtain ⟨M, hM1, hM2, hM3⟩ := HM.out
      have hI := hM3.under b13
      obtain ⟨dz, ⟨c0, c1, c2, c3⟩, f0, f1, f2, f3⟩ := hI.cells4 j hlt
      have HM2 : Hid (∃ M : List InsD, M.length = j + 1 ∧ M.map InsD.val = (L.take (j + 1)).map InsD.val ∧ IR (putI w3 w.heap.size j d') w.heap.size (some ⟨w.heap.size, 0, none⟩) n n (M ++ List.replicate (n - (j + 1)) zeroD)) := by
        refine ⟨M ++ [d'], by simp [hM1], by rw [List.map_append, hM2, HV.out, ← hv]; rfl, ?_⟩
        have := hI.put hlt hok
        have e : (M ++ List.replicate (n - j) zeroD).set j d' = M ++ [d'] ++ List.replicate (n - (j + 1)) zeroD := by
          rw [List.set_append_right _ _ (by omega), hM1, Nat.sub_self, show n - j = (n - (j + 1)) + 1 by omega, List.replicate_succ, List.set_cons_zero, List.append_assoc]
          rfl
        rw [e] at this
        exact this
      have HB3 : Hid (Below w.heap.size w (putI w3 w.heap.size j d')) := putI_below (HB.out.trans (b13.mono HB.out.size)) (Nat.le_refl _)
      unfold putI at HM2 HB3
      clear hv hn' hok b3 b13 hM1 hM2 hM3 hI HOK HV HM
      go_wp2
      go_roundw
      case rel => exact ⟨j + 1, by go_num, by omega, HM2, HB3⟩
      case measure => simp [intOf]; omega
    · have hjn : j = n := by omega
      subst hjn
      have HE : Hid (∃ (M : List InsD) (o' : Option Addr), Ending.returned (.slice (some ⟨w.heap.size, 0, none⟩) j j) = Ending.returned (.slice o' j j) ∧ LD wr o' M ∧ M.length = j ∧ M.map InsD.val = L.map InsD.val ∧ Below w.heap.size w wr) := by
        obtain ⟨M, hM1, hM2, hM3⟩ := HM.out
        rw [Nat.sub_self, List.replicate_zero, List.append_nil] at hM3
        rw [List.take_of_length_le (by rw [HL.out]; exact Nat.le_refl _)] at hM2
        exact ⟨M, _, rfl, hM3.LD, hM1, hM2, HB.out⟩
      clear hlt HM
      go_wp2
      go_ret
      exact HE.out
theorem fcloneBody (o : Option Addr) (cap n : Nat) (L : List InsD) (w : World) (h : LD w o L) (hl : L.length = n) (hn : n ≤ 1000) (hk : ∀ d ∈ L, d.n ≤ 1000) :
    Calls Tryz.prog 9 #[.slice o n cap] w fun r w' => ∃ (M : List InsD) (o' : Option Addr), r = .returned (.slice o' n n) ∧ LD w' o' M ∧ M.length = n ∧ M.map InsD.val = L.map InsD.val ∧ Below w.heap.size w w' := by
  have hc := fcloneAll o cap n L w h hl hn hk
  have HC : Hid (type_of% hc) := hc
  clear h hl hk hc
  go_enter Tryz.func9, Tryz.ntmps9
  go_wp2_with fail
  refine HC.out.mono ?_
  rintro r w1 ⟨M, o', rfl, hld, hm, hv, hb⟩
  have HE : Hid (LD w1 o' M ∧ M.length = n ∧ M.map InsD.val = L.map InsD.val ∧ Below w.heap.size w w1) := ⟨hld, hm, hv, hb⟩
  clear hld hm hv hb
  go_wp2
  go_ret
  exact ⟨M, o', rfl, HE.out⟩
end Go.Proofs.YtkceplamaocmmaaGreatDoor
namespace Go.Proofs.YtkceplamaocmmaaGreatDoor
open Go.RowKit
set_option linter.unusedVariables false
structure BodyOut (L : List InsD) (w w' : World) (r : Ending) (M : List InsD) : Prop where
  ret : ∃ (o' : Option Addr) (cap' : Nat), r = .returned (.tuple #[.slice o' M.length cap', .int .i64 0]) ∧ LD w' o' M ∧ M.length ≤ cap' ∧ cap' ≤ 9223372036854775807
  fold : ∃ L' : List InsD, L'.map InsD.val = L.map InsD.val ∧ Folds L' M
  fine : Fine M
  short : M.length ≤ L.length
  nd : NdLe M L
  below : Below w.heap.size w w'
theorem fbody_ok (o : Option Addr) (cap : Nat) (L : List InsD) (w : World) (h : LD w o L) (hF : FA w) (hc : nChk L = 0) :
    Calls Tryz.prog 4 #[.slice o L.length cap] w fun r w' => ∃ M, BodyOut L w w' r M := by
  have hck := ncheck_any o cap L w h hF.tab hF.sz
  rw [hc] at hck
  obtain ⟨hn, hr, _, hpos⟩ := nChk_ok L hc
  have hchk := run_chk L [] false hr
  have hn16 : ∀ d ∈ L, d.n ≤ 16 := fun d hd => by
    have := hchk d hd
    unfold chkD chkV at this
    split at this
    · cases this
    split at this
    · cases this
    · omega
  have HCK : Hid (type_of% hck) := hck
  have HCL : Hid (∀ W, Below w.heap.size w W → _) := fun W bb => fcloneBody o cap L.length L W (h.below bb) rfl (by omega) (fun d hd => by have := hn16 d hd; omega)
  have HFO : Hid (∀ W (M : List InsD) (o' : Option Addr), Below w.heap.size w W → LD W o' M → M.length = L.length → M.map InsD.val = L.map InsD.val → Calls Tryz.prog 8 #[.slice o' M.length M.length] W _) := fun W M o' bb hld hm hv =>
    ffolded o' M.length M W hld ⟨Nat.le_refl _, by omega⟩ ⟨by
      rw [nChk_val hv (fun d hd => (hld.1 d hd).lj.1) (fun d hd => (h.1 d hd).lj.1)]
      exact hc, fun d hd => (hld.1 d hd).a⟩ (hF.under bb)
  have HV : Hid (∀ (M : List InsD), M.map InsD.val = L.map InsD.val → M.length = L.length) := fun M hv => val_len hv
  clear hck hn hr hpos hchk hn16 h hF hc
  obtain ⟨n, hnl⟩ : ∃ n, n = L.length := ⟨_, rfl⟩
  rw [← hnl] at HCK HCL ⊢
  have HN : Hid (n = L.length) := hnl
  clear hnl
  go_enter Tryz.func4, Tryz.ntmps4
  go_wp2_with fail
  refine HCK.out.mono ?_
  rintro r w1 ⟨rfl, b1⟩
  have HB1 : Hid (type_of% b1) := b1
  clear b1
  go_wp2_with fail
  refine (HCL.out _ HB1.out).mono ?_
  rintro r w2 ⟨M, o', rfl, hld, hm, hv, b2⟩
  have HB2 : Hid (Below w.heap.size w w2) := HB1.out.trans (b2.mono HB1.out.size)
  have hfo := HFO.out w2 M o' HB2.out hld (by rw [hm]; exact HN.out) hv
  rw [hm] at hfo
  have HF2 : Hid (type_of% hfo) := hfo
  have HVV : Hid (M.map InsD.val = L.map InsD.val) := hv
  clear hfo hld hm hv b2
  go_wp2_with fail
  refine HF2.out.mono ?_
  rintro r w3 ⟨R, o3, c3, rfl, hl3, hc3, hfold, hfine, hlen, hnd, b3⟩
  have HE : Hid (∃ M, BodyOut L w w3 (.returned (.tuple #[.slice o3 R.length c3, .int .i64 0])) M) := by
    refine ⟨R, ⟨⟨o3, c3, rfl, hl3, hc3.1, hc3.2⟩, ⟨M, HVV.out, hfold⟩, hfine, ?_, ?_, HB2.out.trans (b3.mono HB2.out.size)⟩⟩
    · rw [← HN.out]; exact hlen
    · intro o m a hm
      have := hnd o m a hm
      rw [val_ops HVV.out] at this
      exact this
  clear hl3 hc3 hfold hfine hlen hnd b3
  generalize R.length = k at *
  go_wp2
  go_ret2
  exact HE.out
theorem fbody_bad (o : Option Addr) (cap : Nat) (L : List InsD) (w : World) (h : LD w o L) (hF : FA w) (hc : nChk L ≠ 0) :
    Calls Tryz.prog 4 #[.slice o L.length cap] w fun r w' => r = .returned (.tuple #[.slice none 0 0, .int .i64 (nChk L)]) ∧ Below w.heap.size w w' := by
  have hck := ncheck_any o cap L w h hF.tab hF.sz
  have HCK : Hid (type_of% hck) := hck
  have hne : (nChk L == 0) = false := by rw [beq_eq_false_iff_ne]; exact hc
  have hne2 : (nChk L != 0) = true := by rw [bne, hne]; rfl
  clear hck h hF hc
  generalize nChk L = c at *
  generalize L.length = n at *
  go_enter Tryz.func4, Tryz.ntmps4
  go_wp2_with fail
  refine HCK.out.mono ?_
  rintro r w1 ⟨rfl, b1⟩
  go_wp2
  go_ret2
  exact ⟨rfl, b1⟩
end Go.Proofs.YtkceplamaocmmaaGreatDoor
