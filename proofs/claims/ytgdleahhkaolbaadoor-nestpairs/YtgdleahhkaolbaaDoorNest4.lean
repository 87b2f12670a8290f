/-
  What the small functions of nest.Match do.
-/
import Derived.Test.YtgdleahhkaolbaaDoorNest3
import Derived.Laws.MakeOwn
namespace Go.Proofs.YtgdleahhkaolbaaDoor
open Go.RowKit

theorem Tryd.infoInt : (Tryd.prog.info? 3).map (fun i => (i.zero, i.size, i.bytes)) = some (some (.int .i64 0), 1, 8) := by kernel_rfl
/-- The rows of a match: where blocks end, where ifs turn, which are open. -/
structure MS (w wr : World) (gE gS n : Nat) (op : List Nat) (E S : List Int) (o : Option Addr) (cap : Nat) : Prop where
  ends : wr.ownsRow w.heap.size 3 1 (.slice (some ⟨gE, 0, none⟩) n n) n (E.map (Value.int .i64))
  elses : wr.ownsRow w.heap.size 3 1 (.slice (some ⟨gS, 0, none⟩) n n) n (S.map (Value.int .i64))
  opens : wr.ownsRow w.heap.size 3 1 (.slice o op.length cap) op.length (op.map fun (p : Nat) => Value.int .i64 (p : Int))
  es : gE ≠ gS
  far : ∀ g, o = some g → g.block ≠ gE ∧ g.block ≠ gS
  below : Below w.heap.size w wr
section
variable {w wr w' : World} {gE gS n : Nat} {op : List Nat} {E S : List Int} {o : Option Addr} {cap : Nat}
theorem own3_under {w1 w2 : World} {base k : Nat} {v : Value} {xs : List Value} (h : w1.ownsRow base 3 1 v k xs) (b : Below w1.heap.size w1 w2) : w2.ownsRow base 3 1 v k xs :=
  h.kept (row := none) ⟨b.os, b.tape, b.output, b.size, fun k hk _ => b.block k hk⟩ (by cases hv : v.ownBlock <;> simp)
theorem MS.under (h : MS w wr gE gS n op E S o cap) (b : Below wr.heap.size wr w') : MS w w' gE gS n op E S o cap :=
  ⟨own3_under h.ends b, own3_under h.elses b, own3_under h.opens b, h.es, h.far, h.below.trans (b.mono h.below.size)⟩
theorem MS.drew (h : MS w wr gE gS n op E S o cap) : MS w wr.drew gE gS n op E S o cap := ⟨h.ends, h.elses, h.opens, h.es, h.far, h.below.drew⟩
theorem MS.lenE (h : MS w wr gE gS n op E S o cap) : E.length = n := by have := h.ends.1; simpa using this
theorem MS.lenS (h : MS w wr gE gS n op E S o cap) : S.length = n := by have := h.elses.1; simpa using this
theorem far_block {P k c : Nat} (h : ∀ g, o = some g → g.block ≠ P) : (Value.slice o k c).ownBlock ≠ some P := by
  cases o with
  | none => simp [Value.ownBlock]
  | some g => simpa [Value.ownBlock] using h g rfl
theorem MS.setE (h : MS w wr gE gS n op E S o cap) (j : Nat) (v : Int) : MS w (wr.setCell ⟨gE, j, none⟩ (.int .i64 v)) gE gS n op (E.set j v) S o cap := by
  refine ⟨?_, ?_, ?_, h.es, h.far, h.below.setCell (h.ends.lt gE rfl).1 _⟩
  · rw [List.map_set]
    exact (h.ends.stored j _).1
  · exact ownsRow_setCell_other h.elses (by simp [Value.ownBlock]; exact h.es.symm) _
  · exact ownsRow_setCell_other h.opens (far_block fun g hg => (h.far g hg).1) _
theorem MS.setS (h : MS w wr gE gS n op E S o cap) (j : Nat) (v : Int) : MS w (wr.setCell ⟨gS, j, none⟩ (.int .i64 v)) gE gS n op E (S.set j v) o cap := by
  refine ⟨?_, ?_, ?_, h.es, h.far, h.below.setCell (h.elses.lt gS rfl).1 _⟩
  · exact ownsRow_setCell_other h.ends (by simp [Value.ownBlock]; exact h.es) _
  · rw [List.map_set]
    exact (h.elses.stored j _).1
  · exact ownsRow_setCell_other h.opens (far_block fun g hg => (h.far g hg).2) _
theorem MS.cellE (h : MS w wr gE gS n op E S o cap) (j : Nat) (hj : j < n) : wr.cell? ⟨gE, j, none⟩ = some (.int .i64 (E.getD j 0)) ∧ wr.frozen? ⟨gE, j, none⟩ = false := by
  refine ⟨?_, h.ends.frozenAt j⟩
  rw [h.ends.cellAt j (by omega), List.getElem?_map, List.getElem?_eq_getElem (by rw [h.lenE]; exact hj), List.getD_eq_getElem?_getD, List.getElem?_eq_getElem (by rw [h.lenE]; exact hj)]
  rfl
theorem MS.cellS (h : MS w wr gE gS n op E S o cap) (j : Nat) (hj : j < n) : wr.cell? ⟨gS, j, none⟩ = some (.int .i64 (S.getD j 0)) ∧ wr.frozen? ⟨gS, j, none⟩ = false := by
  refine ⟨?_, h.elses.frozenAt j⟩
  rw [h.elses.cellAt j (by omega), List.getElem?_map, List.getElem?_eq_getElem (by rw [h.lenS]; exact hj), List.getD_eq_getElem?_getD, List.getElem?_eq_getElem (by rw [h.lenS]; exact hj)]
  rfl
theorem MS.lasts {ini : List Nat} {f : Nat} (h : MS w wr gE gS n (ini ++ [f]) E S o cap) : ∃ gO, o = some ⟨gO, 0, none⟩ ∧ wr.cell? ⟨gO, ini.length, none⟩ = some (.int .i64 (f : Int)) ∧ ini.length + 1 ≤ cap ∧ cap ≤ 9223372036854775807 ∧ MS w wr gE gS n ini E S o cap := by
  have ho := h.opens
  have hl : (ini ++ [f]).length = ini.length + 1 := by simp
  rw [hl, List.map_append] at ho
  obtain ⟨g, c, hv, hb, _⟩ := ho.form (by omega)
  simp only [Value.slice.injEq] at hv
  obtain ⟨rfl, _, rfl⟩ := hv
  obtain ⟨c1, c2⟩ := own_cap ho
  refine ⟨g, rfl, ?_, c1, c2, ⟨h.ends, h.elses, ?_, h.es, h.far, h.below⟩⟩
  · rw [ho.cellAt ini.length (by omega), List.getElem?_append_right (by simp), List.length_map, Nat.sub_self]
    rfl
  · exact ownsRow_pop (by simp) ho
end
set_option maxHeartbeats 4000000 in
set_option maxRecDepth 1000000 in
theorem nowhere_any (n : Nat) (hn : n ≤ 200) (w : World) :
    Calls Tryd.prog 65 #[.int .i64 n] w fun r w' => ∃ g, r = .returned (.slice (some ⟨g, 0, none⟩) n n) ∧ w.heap.size ≤ g ∧ g < w'.heap.size ∧ w'.ownsRow w.heap.size 3 1 (.slice (some ⟨g, 0, none⟩) n n) n ((List.replicate n (-1 : Int)).map (Value.int .i64)) ∧ Below w.heap.size w w' := by
  obtain ⟨i0, hi, hz0, hz1, hz2⟩ := info_parts Tryd.infoInt
  go_enter Tryd.func65, Tryd.ntmps65
  go_wp2_with (at_make; refine wpList_make_full _ rfl _ _ 41 rfl w.heap.size 3 i0 (.int .i64 0) 1 Tryd.underlying41 hi hz0 hz1 .i64 .i64 (n : Int) (n : Int) n rfl rfl rfl rfl ?b2 ?b3 (Nat.le_refl _) ?_)
  case b2 => rw [hz2]; omega
  case b3 => unfold maxLen; omega
  intro w2 hown hgrow
  obtain ⟨Z, hlz2, hownZ⟩ : ∃ Z : List Value, Z.length = n ∧ w2.ownsRow w.heap.size 3 1 (.slice (some ⟨w.heap.size, 0, none⟩) n n) n Z := ⟨_, by have := hown.1; simpa using this, hown⟩
  have HB : Hid (Below w.heap.size w w2) := (Below.refl _ _).grown hgrow (Nat.le_refl _) (fun j hj => by cases hj)
  have HLZ : Hid (Z.length = n) := hlz2
  have HOZ : Hid (type_of% hownZ) := hownZ
  clear hown hgrow hlz2 hz2 hownZ
  go_wp2
  go_loopw [9] (fun i wr => ∃ k : Nat, i = .int .i64 k ∧ k ≤ n ∧ Hid (wr.ownsRow w.heap.size 3 1 (.slice (some ⟨w.heap.size, 0, none⟩) n n) n ((List.replicate k (-1 : Int)).map (Value.int .i64) ++ Z.drop k)) ∧ Hid (Below w.heap.size w wr)) (fun i _ => n - (intOf i).toNat)
  case atStart => exact ⟨0, rfl, by omega, by simpa using HOZ, HB⟩
  case round =>
    obtain ⟨k, rfl, hk, HO, HBk⟩ := hrel
    clear HOZ HB
    by_cases hlt : k < n
    · have hki0 : (0 : Int) ≤ (k : Int) := by omega
      have hki1 : (k : Int) < (n : Int) := by omega
      have hst := (HO.out.stored k (.int .i64 (-1))).1
      have hfz := HO.out.frozenAt k
      have hcell : wr.cell? ⟨w.heap.size, k, none⟩ = some (Z.getD k (.int .i64 0)) := by
        rw [HO.out.cellAt k (by omega), List.getElem?_append_right (by simp), List.length_map, List.length_replicate, Nat.sub_self, List.getElem?_drop, Nat.add_zero, List.getElem?_eq_getElem (by rw [HLZ.out]; exact hlt), List.getD_eq_getElem?_getD, List.getElem?_eq_getElem (by rw [HLZ.out]; exact hlt)]
        rfl
      rw [set_step _ _ _ _ (by simp) (by rw [HLZ.out]; exact hlt)] at hst
      have HST : Hid ((wr.setCell ⟨w.heap.size, k, none⟩ (.int .i64 (-1))).ownsRow w.heap.size 3 1 (.slice (some ⟨w.heap.size, 0, none⟩) n n) n ((List.replicate (k + 1) (-1 : Int)).map (Value.int .i64) ++ Z.drop (k + 1))) := by
        unfold Hid
        rw [List.replicate_succ', List.map_append]
        exact hst
      have HB4 : Hid (Below w.heap.size w (wr.setCell ⟨w.heap.size, k, none⟩ (.int .i64 (-1)))) := HBk.out.setCell (Nat.le_refl _) _
      clear hst HO HBk
      go_wp2
      go_roundw
      case rel => exact ⟨k + 1, by go_num, by omega, HST, HB4⟩
      case measure => simp [intOf]; omega
    · have hkn : k = n := by omega
      subst hkn
      have HE : Hid (wr.ownsRow w.heap.size 3 1 (.slice (some ⟨w.heap.size, 0, none⟩) k k) k ((List.replicate k (-1 : Int)).map (Value.int .i64))) := by
        have := HO.out
        rw [List.drop_eq_nil_of_le (by rw [HLZ.out]; exact Nat.le_refl _), List.append_nil] at this
        exact this
      clear HO
      go_wp2
      go_ret
      exact ⟨w.heap.size, rfl, Nat.le_refl _, (HE.out.lt _ rfl).2, HE.out, HBk.out⟩
/-- What tie leaves of the ends. -/
def tieE (E S : List Int) (f t : Nat) : List Int := if S.getD f 0 = -1 then (E.set f (t : Int)).set t (f : Int) else ((E.set f (t : Int)).set t (f : Int)).set (S.getD f 0).toNat (t : Int)
set_option maxHeartbeats 4000000 in
set_option maxRecDepth 1000000 in
theorem tie_any (w wr : World) (gE gS n : Nat) (op : List Nat) (E S : List Int) (o : Option Addr) (cap f t : Nat) (h : MS w wr gE gS n op E S o cap) (hn : n ≤ 200) (hf : f < n) (ht : t < n) (hS : S.getD f 0 = -1 ∨ (0 ≤ S.getD f 0 ∧ S.getD f 0 < n)) :
    Calls Tryd.prog 66 #[.slice (some ⟨gE, 0, none⟩) n n, .slice (some ⟨gS, 0, none⟩) n n, .int .i64 f, .int .i64 t] wr fun r w' => r = .returned (.tuple #[]) ∧ MS w w' gE gS n op (tieE E S f t) S o cap := by
  have h1 := h.setE f t
  have h2 := h1.setE t f
  obtain ⟨c1, z1⟩ := h.cellE f hf
  obtain ⟨c2, z2⟩ := h1.cellE t ht
  obtain ⟨c3, z3⟩ := h2.cellS f hf
  have H2 : Hid (type_of% h2) := h2
  have hfi0 : (0 : Int) ≤ (f : Int) := by omega
  have hfi1 : (f : Int) < (n : Int) := by omega
  have hti0 : (0 : Int) ≤ (t : Int) := by omega
  have hti1 : (t : Int) < (n : Int) := by omega
  have hni : (n : Int) ≤ 200 := by omega
  have hse := h.es
  unfold tieE
  rcases hS with hS | ⟨s0, s1⟩
  · rw [if_pos hS]
    rw [hS] at c3
    clear h h1 h2
    go_enter Tryd.func66, Tryd.ntmps66
    go_wp2
    go_end0
    exact ⟨rfl, H2.out⟩
  · rw [if_neg (by omega)]
    obtain ⟨s, hs⟩ : ∃ s : Nat, S.getD f 0 = (s : Int) := ⟨(S.getD f 0).toNat, by omega⟩
    rw [hs] at c3 s0 s1 ⊢
    rw [Int.toNat_natCast]
    have h3 := h2.setE s t
    obtain ⟨c4, z4⟩ := h2.cellE s (by omega)
    have H3 : Hid (type_of% h3) := h3
    have hne : ((s : Int) == -1) = false := by rw [beq_eq_false_iff_ne]; omega
    have hnn : ((s : Int) != -1) = true := by rw [bne, hne]; rfl
    clear h h1 h2 h3 H2 hs
    go_enter Tryd.func66, Tryd.ntmps66
    go_wp2
    go_end0
    exact ⟨rfl, H3.out⟩

end Go.Proofs.YtgdleahhkaolbaaDoor
