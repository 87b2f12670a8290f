/-
  Folding: the program's own copy of a body.
-/
import Derived.Test.YtkceplamaocmmaaDoorFD12
namespace Go.Proofs.YtkceplamaocmmaaDoor
open Go.RowKit
set_option linter.unusedVariables false

def zeroD : InsD := mkD 0 0
theorem zeroD_ok (w : World) : OkT w zeroD := ⟨mkD_ok w 0 0 (by omega) (by omega) (by omega), fun h => absurd h (by show ¬ 0 < 0; omega)⟩
theorem made_ins (n : Nat) : madeCells (Value.agg #[.int .u8 0, .int .i64 0, .int .i64 0, .slice none 0 0]).cells (n * 4) = (cellsOf (List.replicate n zeroD)).toArray := by
  apply Array.toList_inj.1
  unfold madeCells
  rw [Array.toList_map]
  apply List.ext_getElem?
  intro i
  have hl : (cellsOf (List.replicate n zeroD)).length = n * 4 := by rw [cells_len, List.length_replicate]
  have hs : (Value.agg #[.int .u8 0, .int .i64 0, .int .i64 0, .slice none 0 0]).cells = #[.int .u8 0, .int .i64 0, .int .i64 0, .slice none 0 0] := rfl
  rw [hs]
  by_cases hlt : i < n * 4
  · have e := cellsOf_at (List.replicate n zeroD) (i / 4) (i % 4) (by simp; omega) (by omega)
    rw [show i / 4 * 4 + i % 4 = i by omega] at e
    simp only [List.getElem?_map, Array.toList_range, List.getElem?_range hlt, Option.map_some]
    rw [e, List.getElem_replicate]
    have h4 : i % 4 = 0 ∨ i % 4 = 1 ∨ i % 4 = 2 ∨ i % 4 = 3 := by omega
    show some (#[Value.int .u8 0, .int .i64 0, .int .i64 0, .slice none 0 0][i % 4]!) = _
    rcases h4 with h4 | h4 | h4 | h4 <;> rw [h4] <;> rfl
  · rw [List.getElem?_eq_none (by simp; omega), List.getElem?_eq_none (by simp [hl]; omega)]
theorem make_ins (n : Nat) (hn : n ≤ 1000) (w : World) : (Instr.makeSlice 22 (.int .i64 (n : Int)) (.int .i64 (n : Int))).run Tryd.prog w = .ok (.slice (some ⟨w.heap.size, 0, none⟩) n n) (w.alloc (.cells (cellsOf (List.replicate n zeroD)).toArray 30)) := by
  obtain ⟨i0, hi, hz0, hz1, hz2⟩ := info_parts Tryd.infoIns
  have := run_make (P := Tryd.prog) w 22 30 i0 (.agg #[.int .u8 0, .int .i64 0, .int .i64 0, .slice none 0 0]) Tryd.underlying22 hi hz0 .i64 .i64 (n : Int) (n : Int) (by omega) (by omega) (by rw [hz2]; omega) (by omega)
  rw [this, hz1, Int.toNat_natCast, made_ins]
theorem fmakeX {P : Program} {w : World} {ops : Array Oper} {rest : List Oper} {o : Oper} {a : Act} {Q : Exit → Act → World → Prop} (hgd : o.guard = none) (l c : Operand) (t : TypeId) (ho : o.op = .makeSlice t l c)
    (vl vc : Value) (hl : a.eval l = vl) (hc : a.eval c = vc) (p : Value) (w' : World) (hr : (Instr.makeSlice t vl vc).run P w = .ok p w') (h : wpList P ops Q rest (a.put o.dst p) w') : wpList P ops Q (o :: rest) a w := by
  refine wpList_plain hgd fun K hK => ?_
  unfold Oper.wp
  simp [execOp, ho, hl, hc, hr, Result.andThen]
  exact hK _ _ h
theorem frow_set {w : World} {N g n cap k : Nat} {T : TypeId} {xs : List Value} (h : w.ownsRow N T k (.slice (some ⟨g, 0, none⟩) n cap) n xs) (i : Nat) (v : Value) : (w.setCell ⟨g, i, none⟩ v).ownsRow N T k (.slice (some ⟨g, 0, none⟩) n cap) n (xs.set i v) := by
  obtain ⟨hl, hown⟩ := h
  rcases hown with ⟨hv, _⟩ | ⟨g', c', cur, hv, hB, hg, h1, h2, h3, h4⟩
  · simp at hv
  simp only [Value.slice.injEq, Option.some.injEq, Addr.mk.injEq, and_true, true_and] at hv
  obtain ⟨rfl, rfl⟩ := hv
  refine ⟨by rw [List.length_set]; exact hl, Or.inr ⟨g, cap, cur.setIfInBounds i v, rfl, hB, ?_, h1, h2, by simpa using h3, ?_⟩⟩
  · rw [setCell_eq_setRow w g i cur T (0, 0) _ hg]
    exact setRow_heap w g cur _ _ _ hg
  · rw [Array.toList_setIfInBounds, ← h4, List.take_set]
theorem cells_set : ∀ (L : List InsD) (j : Nat) (d : InsD), j < L.length → ((((cellsOf L).set (j * 4) (.int .u8 d.op)).set (j * 4 + 1) (.int .i64 d.A)).set (j * 4 + 2) (.int .i64 d.B)).set (j * 4 + 3) (.slice d.o d.n d.cap) = cellsOf (L.set j d)
  | [], j, d, h => absurd h (by simp)
  | x :: L, 0, d, h => by
    unfold cellsOf
    simp [InsD.cells, List.flatMap_cons]
  | x :: L, j + 1, d, h => by
    have ih := cells_set L j d (by simpa using h)
    unfold cellsOf at ih ⊢
    rw [List.set_cons_succ, List.flatMap_cons, List.flatMap_cons, ← ih]
    have e : ∀ (r : Nat) (v : Value) (ys : List Value), (x.cells ++ ys).set ((j + 1) * 4 + r) v = x.cells ++ ys.set (j * 4 + r) v := fun r v ys => by
      rw [List.set_append_right _ _ (by simp [InsD.cells]; omega)]
      congr 2
      simp [InsD.cells]
      omega
    have e0 := e 0
    simp only [Nat.add_zero] at e0
    rw [e0, e 1, e 2, e 3]
theorem set_far (w : World) (g i j : Nat) (v : Value) (h : j ≠ g) : (w.setCell ⟨g, i, none⟩ v).heap[j]? = w.heap[j]? := by
  simp [World.setCell, Array.getElem?_modify, Ne.symm h]
theorem set_size (w : World) (g i : Nat) (v : Value) : (w.setCell ⟨g, i, none⟩ v).heap.size = w.heap.size := by
  simp [World.setCell]
/-- The world in which an instruction was put into a row. -/
def putI (w : World) (g j : Nat) (d : InsD) : World := (((w.setCell ⟨g, j * 4, none⟩ (.int .u8 d.op)).setCell ⟨g, j * 4 + 1, none⟩ (.int .i64 d.A)).setCell ⟨g, j * 4 + 2, none⟩ (.int .i64 d.B)).setCell ⟨g, j * 4 + 3, none⟩ (.slice d.o d.n d.cap)
theorem IR.put {w : World} {B n cap g j : Nat} {L : List InsD} {d : InsD} (h : IR w B (some ⟨g, 0, none⟩) n cap L) (hj : j < n) (hd : OkT w d) : IR (putI w g j d) B (some ⟨g, 0, none⟩) n cap (L.set j d) := by
  have hsz : (putI w g j d).heap.size = w.heap.size := by unfold putI; rw [set_size, set_size, set_size, set_size]
  have hfar : ∀ k, k ≠ g → (putI w g j d).heap[k]? = w.heap[k]? := fun k hk => by unfold putI; rw [set_far _ _ _ _ _ hk, set_far _ _ _ _ _ hk, set_far _ _ _ _ _ hk, set_far _ _ _ _ _ hk]
  have hg : ∃ cur, w.heap[g]? = some (.cells cur 30 (0, 0)) := by
    rcases h.own.2 with ⟨hv, _⟩ | ⟨g', c, cur, hv, _, hg, _⟩
    · simp at hv
    · simp only [Value.slice.injEq, Option.some.injEq, Addr.mk.injEq, and_true] at hv
      obtain ⟨⟨rfl, _⟩, _⟩ := hv
      exact ⟨cur, hg⟩
  obtain ⟨cg, hg⟩ := hg
  have key : ∀ (k : Nat) (cur : Array Value) (f : Nat × Nat), w.heap[k]? = some (.cells cur 2 f) → (putI w g j d).heap[k]? = w.heap[k]? := fun k cur f hk => hfar k fun e => by
    rw [e, hg] at hk
    simp at hk
  have hmem : ∀ x ∈ L.set j d, OkT w x := fun x hx => by
    rcases List.mem_or_eq_of_mem_set hx with hx | rfl
    · exact ⟨h.ok x hx, h.ty x hx⟩
    · exact hd
  refine ⟨?_, by rw [List.length_set]; exact h.len, fun x hx => ?_, fun x hx h0 => ?_⟩
  · have := frow_set (frow_set (frow_set (frow_set h.own (j * 4) (.int .u8 d.op)) (j * 4 + 1) (.int .i64 d.A)) (j * 4 + 2) (.int .i64 d.B)) (j * 4 + 3) (.slice d.o d.n d.cap)
    rw [cells_set L j d (by rw [h.len]; exact hj)] at this
    exact this
  · obtain ⟨h1, h2⟩ := hmem x hx
    refine ok_keep h1 (by rw [hsz]; exact Nat.le_refl _) fun h0 a ha => ?_
    obtain ⟨g', cur, f, e, hc⟩ := h2 h0
    rw [ha] at e
    cases e
    exact key _ _ _ hc
  · obtain ⟨h1, h2⟩ := hmem x hx
    obtain ⟨g', cur, f, e, hc⟩ := h2 h0
    exact ⟨g', cur, f, e, by rw [key _ _ _ hc]; exact hc⟩
theorem putI_below {B g j : Nat} {w w' : World} {d : InsD} (h : Below B w w') (hg : B ≤ g) : Below B w (putI w' g j d) :=
  (((h.setCell (p := ⟨g, _, none⟩) hg _).setCell (p := ⟨g, _, none⟩) hg _).setCell (p := ⟨g, _, none⟩) hg _).setCell (p := ⟨g, _, none⟩) hg _
theorem IR.cells4 {w : World} {B n cap g : Nat} {L : List InsD} (h : IR w B (some ⟨g, 0, none⟩) n cap L) (j : Nat) (hj : j < n) : ∃ d : InsD, (w.cell? ⟨g, j * 4, none⟩ = some (.int .u8 d.op) ∧ w.cell? ⟨g, j * 4 + 1, none⟩ = some (.int .i64 d.A) ∧ w.cell? ⟨g, j * 4 + 2, none⟩ = some (.int .i64 d.B) ∧ w.cell? ⟨g, j * 4 + 3, none⟩ = some (.slice d.o d.n d.cap)) ∧ (w.frozen? ⟨g, j * 4, none⟩ = false ∧ w.frozen? ⟨g, j * 4 + 1, none⟩ = false ∧ w.frozen? ⟨g, j * 4 + 2, none⟩ = false ∧ w.frozen? ⟨g, j * 4 + 3, none⟩ = false) := by
  have hl : j < L.length := by rw [h.len]; exact hj
  have q : ∀ r, r < 4 → w.cell? ⟨g, j * 4 + r, none⟩ = (L[j]).cells[r]? := fun r hr => by
    rw [← cellsOf_at L j r hl hr, ← h.own.cellAt (j * 4 + r) (by omega)]
  exact ⟨L[j], ⟨q 0 (by omega), q 1 (by omega), q 2 (by omega), q 3 (by omega)⟩, h.own.frozenAt _, h.own.frozenAt _, h.own.frozenAt _, h.own.frozenAt _⟩
set_option maxHeartbeats 8000000 in
set_option maxRecDepth 1000000 in
theorem fcloneAll (o : Option Addr) (cap n : Nat) (L : List InsD) (w : World) (h : LD w o L) (hl : L.length = n) (hn : n ≤ 1000) (hk : ∀ d ∈ L, d.n ≤ 1000) :
    Calls Tryd.prog 15 #[.slice o n cap, .func (.func 16) #[] #[]] w fun r w' => ∃ (M : List InsD) (o' : Option Addr), r = .returned (.slice o' n n) ∧ LD w' o' M ∧ M.length = n ∧ M.map InsD.val = L.map InsD.val ∧ Below w.heap.size w w' := by
  have HMK := make_ins n hn w
  have HLD : Hid (LD w o L) := h
  have HL : Hid (L.length = n) := hl
  have HK : Hid (∀ d ∈ L, d.n ≤ 1000) := hk
  have HW1 : Hid (IR (w.alloc (.cells (cellsOf (List.replicate n zeroD)).toArray 30)) w.heap.size (some ⟨w.heap.size, 0, none⟩) n n (List.replicate n zeroD)) := by
    refine ⟨?_, by simp, fun x hx => ?_, fun x hx h0 => ?_⟩
    · have := World.ownsRow_lit (base := w.heap.size) (size := 4) (e := 30) w (cellsOf (List.replicate n zeroD)).toArray n (Nat.le_refl _) (by unfold maxLen; omega) (by simp [cells_len])
      simpa using this
    · obtain rfl := List.eq_of_mem_replicate hx
      exact (zeroD_ok _).1
    · obtain rfl := List.eq_of_mem_replicate hx
      exact absurd h0 (by show ¬ 0 < 0; omega)
  have HB1 : Hid (Below w.heap.size w (w.alloc (.cells (cellsOf (List.replicate n zeroD)).toArray 30))) := (Below.refl _ _).alloc (Nat.le_refl _) _
  clear h hl hk
  go_enter Tryd.func15, Tryd.ntmps15
  go_wp2_with (refine fmakeX rfl _ _ 22 rfl (.int .i64 (n : Int)) (.int .i64 (n : Int)) rfl rfl _ _ HMK ?_)
  generalize w.alloc (.cells (cellsOf (List.replicate n zeroD)).toArray 30) = v at *
  clear HMK
  go_wp2
  go_loopw [13] (fun iv wr => ∃ j : Nat, iv = .int .i64 (j : Int) ∧ j ≤ n ∧ Hid (∃ M : List InsD, M.length = j ∧ M.map InsD.val = (L.take j).map InsD.val ∧ IR wr w.heap.size (some ⟨w.heap.size, 0, none⟩) n n (M ++ List.replicate (n - j) zeroD)) ∧ Hid (Below w.heap.size w wr)) (fun iv _ => n - (intOf iv).toNat)
  case atStart => exact ⟨0, rfl, by omega, ⟨[], rfl, rfl, HW1.out⟩, HB1⟩
  case round =>
    clear HW1 HB1
    obtain ⟨j, rfl, hj, HM, HB⟩ := hrel
    by_cases hlt : j < n
    · obtain ⟨b, f, rfl, hbw, hcl⟩ : ∃ b f, o = some ⟨b, f, none⟩ ∧ b < w.heap.size ∧ _ := by
        rcases HLD.out.2 with h0 | h0
        · have := HL.out; rw [h0] at this; simp at this; omega
        · exact h0
      have hjl : j < L.length := by rw [HL.out]; exact hlt
      obtain ⟨m0, m1, m2, m3⟩ := hcl j hjl
      have e0 := (HB.out.cell (p := ⟨b, f + j * 4, none⟩) hbw).trans m0
      have e1 := (HB.out.cell (p := ⟨b, f + j * 4 + 1, none⟩) hbw).trans m1
      have e2 := (HB.out.cell (p := ⟨b, f + j * 4 + 2, none⟩) hbw).trans m2
      have e3 := (HB.out.cell (p := ⟨b, f + j * 4 + 3, none⟩) hbw).trans m3
      have HOK : Hid ((L[j]).ok w ∧ (L[j]).n ≤ 1000) := ⟨HLD.out.1 _ (List.getElem_mem hjl), HK.out _ (List.getElem_mem hjl)⟩
      have HV : Hid ((L.take (j + 1)).map InsD.val = (L.take j).map InsD.val ++ [(L[j]).val]) := by unfold Hid; rw [List.take_succ_eq_append_getElem hjl, List.map_append]; rfl
      clear m0 m1 m2 m3 hcl
      generalize L[j] = d at *
      have hj0 : (0 : Int) ≤ (j : Int) := by omega
      have hj1 : (j : Int) < (n : Int) := by omega
      go_wp2_with fail
      refine (fcloneIns d HOK.out.2 _ (HOK.out.1.below (HB.out.alloc HB.out.size _))).mono ?_
      rintro r w3 ⟨d', rfl, hv, hn', hok, b3⟩
      have b13 : Below wr.heap.size wr w3 := ((Below.refl _ _).alloc (Nat.le_refl _) _).trans (b3.mono (by simp))
      obtain ⟨M, hM1, hM2, hM3⟩ := HM.out
      have hI := hM3.under b13
      obtain ⟨dz, ⟨c0, c1, c2, c3⟩, f0, f1, f2, f3⟩ := hI.cells4 j hlt
      have HM2 : Hid (∃ M : List InsD, M.length = j + 1 ∧ M.map InsD.val = (L.take (j + 1)).map InsD.val ∧ IR (putI w3 w.heap.size j d') w.heap.size (some ⟨w.heap.size, 0, none⟩) n n (M ++ List.replicate (n - (j + 1)) zeroD)) := by
        refine ⟨M ++ [d'], by simp [hM1], by rw [List.map_append, hM2, HV.out, ← hv]; rfl, ?_⟩
        have := hI.put hlt hok
        have e : (M ++ List.replicate (n - j) zeroD).set j d' = M ++ [d'] ++ List.replicate (n - (j + 1)) zeroD := by
          rw [List.set_append_right _ _ (by omega), hM1, Nat.sub_self, show n - j = (n - (j + 1)) + 1 by omega, List.replicate_succ, List.set_cons_zero, List.append_assoc]
          rfl
        rw [e] at this
        exact this
      have HB3 : Hid (Below w.heap.size w (putI w3 w.heap.size j d')) := putI_below (HB.out.trans (b13.mono HB.out.size)) (Nat.le_refl _)
      unfold putI at HM2 HB3
      clear hv hn' hok b3 b13 hM1 hM2 hM3 hI HOK HV HM
      go_wp2
      go_roundw
      case rel => exact ⟨j + 1, by go_num, by omega, HM2, HB3⟩
      case measure => simp [intOf]; omega
    · have hjn : j = n := by omega
      subst hjn
      have HE : Hid (∃ (M : List InsD) (o' : Option Addr), Ending.returned (.slice (some ⟨w.heap.size, 0, none⟩) j j) = Ending.returned (.slice o' j j) ∧ LD wr o' M ∧ M.length = j ∧ M.map InsD.val = L.map InsD.val ∧ Below w.heap.size w wr) := by
        obtain ⟨M, hM1, hM2, hM3⟩ := HM.out
        rw [Nat.sub_self, List.replicate_zero, List.append_nil] at hM3
        rw [List.take_of_length_le (by rw [HL.out]; exact Nat.le_refl _)] at hM2
        exact ⟨M, _, rfl, hM3.LD, hM1, hM2, HB.out⟩
      clear hlt HM
      go_wp2
      go_ret
      exact HE.out
set_option maxHeartbeats 1000000 in
set_option maxRecDepth 1000000 in
theorem fcloneBody (o : Option Addr) (cap n : Nat) (L : List InsD) (w : World) (h : LD w o L) (hl : L.length = n) (hn : n ≤ 1000) (hk : ∀ d ∈ L, d.n ≤ 1000) :
    Calls Tryd.prog 9 #[.slice o n cap] w fun r w' => ∃ (M : List InsD) (o' : Option Addr), r = .returned (.slice o' n n) ∧ LD w' o' M ∧ M.length = n ∧ M.map InsD.val = L.map InsD.val ∧ Below w.heap.size w w' := by
  have hc := fcloneAll o cap n L w h hl hn hk
  have HC : Hid (type_of% hc) := hc
  clear h hl hk hc
  go_enter Tryd.func9, Tryd.ntmps9
  go_wp2_with fail
  refine HC.out.mono ?_
  rintro r w1 ⟨M, o', rfl, hld, hm, hv, hb⟩
  have HE : Hid (LD w1 o' M ∧ M.length = n ∧ M.map InsD.val = L.map InsD.val ∧ Below w.heap.size w w1) := ⟨hld, hm, hv, hb⟩
  clear hld hm hv hb
  go_wp2
  go_ret
  exact ⟨M, o', rfl, HE.out⟩
end Go.Proofs.YtkceplamaocmmaaDoor
