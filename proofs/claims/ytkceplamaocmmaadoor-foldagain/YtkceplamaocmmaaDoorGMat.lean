/-
  What the small functions of nest.Match do.
  What the program's own nest.Match does.
  What belongs together lies within one another, or apart: plain mathematics of a match.
  What belongs together lies within one another, or apart: of a whole body.
  The law of pairs: its small functions.
-/
import Derived.Test.YtkceplamaocmmaaDoorGNst
import Derived.Laws.MakeOwn
namespace Go.Proofs.YtkceplamaocmmaaDoor
open Go.RowKit

theorem Tryd.infoInt : (Tryd.prog.info? 3).map (fun i => (i.zero, i.size, i.bytes)) = some (some (.int .i64 0), 1, 8) := by kernel_rfl
/-- The rows of a match: where blocks end, where ifs turn, which are open. -/
structure MS (w wr : World) (gE gS n : Nat) (op : List Nat) (E S : List Int) (o : Option Addr) (cap : Nat) : Prop where
  ends : wr.ownsRow w.heap.size 3 1 (.slice (some ⟨gE, 0, none⟩) n n) n (E.map (Value.int .i64))
  elses : wr.ownsRow w.heap.size 3 1 (.slice (some ⟨gS, 0, none⟩) n n) n (S.map (Value.int .i64))
  opens : wr.ownsRow w.heap.size 3 1 (.slice o op.length cap) op.length (op.map fun (p : Nat) => Value.int .i64 (p : Int))
  es : gE ≠ gS
  far : ∀ g, o = some g → g.block ≠ gE ∧ g.block ≠ gS
  below : Below w.heap.size w wr
section
variable {w wr w' : World} {gE gS n : Nat} {op : List Nat} {E S : List Int} {o : Option Addr} {cap : Nat}
theorem own3_under {w1 w2 : World} {base k : Nat} {v : Value} {xs : List Value} (h : w1.ownsRow base 3 1 v k xs) (b : Below w1.heap.size w1 w2) : w2.ownsRow base 3 1 v k xs :=
  h.kept (row := none) ⟨b.os, b.tape, b.output, b.size, fun k hk _ => b.block k hk⟩ (by cases hv : v.ownBlock <;> simp)
theorem MS.under (h : MS w wr gE gS n op E S o cap) (b : Below wr.heap.size wr w') : MS w w' gE gS n op E S o cap :=
  ⟨own3_under h.ends b, own3_under h.elses b, own3_under h.opens b, h.es, h.far, h.below.trans (b.mono h.below.size)⟩
theorem MS.drew (h : MS w wr gE gS n op E S o cap) : MS w wr.drew gE gS n op E S o cap := ⟨h.ends, h.elses, h.opens, h.es, h.far, h.below.drew⟩
theorem MS.lenE (h : MS w wr gE gS n op E S o cap) : E.length = n := by have := h.ends.1; simpa using this
theorem MS.lenS (h : MS w wr gE gS n op E S o cap) : S.length = n := by have := h.elses.1; simpa using this
theorem far_block {P k c : Nat} (h : ∀ g, o = some g → g.block ≠ P) : (Value.slice o k c).ownBlock ≠ some P := by
  cases o with
  | none => simp [Value.ownBlock]
  | some g => simpa [Value.ownBlock] using h g rfl
theorem MS.setE (h : MS w wr gE gS n op E S o cap) (j : Nat) (v : Int) : MS w (wr.setCell ⟨gE, j, none⟩ (.int .i64 v)) gE gS n op (E.set j v) S o cap := by
  refine ⟨?_, ?_, ?_, h.es, h.far, h.below.setCell (h.ends.lt gE rfl).1 _⟩
  · rw [List.map_set]
    exact (h.ends.stored j _).1
  · exact ownsRow_setCell_other h.elses (by simp [Value.ownBlock]; exact h.es.symm) _
  · exact ownsRow_setCell_other h.opens (far_block fun g hg => (h.far g hg).1) _
theorem MS.setS (h : MS w wr gE gS n op E S o cap) (j : Nat) (v : Int) : MS w (wr.setCell ⟨gS, j, none⟩ (.int .i64 v)) gE gS n op E (S.set j v) o cap := by
  refine ⟨?_, ?_, ?_, h.es, h.far, h.below.setCell (h.elses.lt gS rfl).1 _⟩
  · exact ownsRow_setCell_other h.ends (by simp [Value.ownBlock]; exact h.es) _
  · rw [List.map_set]
    exact (h.elses.stored j _).1
  · exact ownsRow_setCell_other h.opens (far_block fun g hg => (h.far g hg).2) _
theorem MS.cellE (h : MS w wr gE gS n op E S o cap) (j : Nat) (hj : j < n) : wr.cell? ⟨gE, j, none⟩ = some (.int .i64 (E.getD j 0)) ∧ wr.frozen? ⟨gE, j, none⟩ = false := by
  refine ⟨?_, h.ends.frozenAt j⟩
  rw [h.ends.cellAt j (by omega), List.getElem?_map, List.getElem?_eq_getElem (by rw [h.lenE]; exact hj), List.getD_eq_getElem?_getD, List.getElem?_eq_getElem (by rw [h.lenE]; exact hj)]
  rfl
theorem MS.cellS (h : MS w wr gE gS n op E S o cap) (j : Nat) (hj : j < n) : wr.cell? ⟨gS, j, none⟩ = some (.int .i64 (S.getD j 0)) ∧ wr.frozen? ⟨gS, j, none⟩ = false := by
  refine ⟨?_, h.elses.frozenAt j⟩
  rw [h.elses.cellAt j (by omega), List.getElem?_map, List.getElem?_eq_getElem (by rw [h.lenS]; exact hj), List.getD_eq_getElem?_getD, List.getElem?_eq_getElem (by rw [h.lenS]; exact hj)]
  rfl
theorem MS.lasts {ini : List Nat} {f : Nat} (h : MS w wr gE gS n (ini ++ [f]) E S o cap) : ∃ gO, o = some ⟨gO, 0, none⟩ ∧ wr.cell? ⟨gO, ini.length, none⟩ = some (.int .i64 (f : Int)) ∧ ini.length + 1 ≤ cap ∧ cap ≤ 9223372036854775807 ∧ MS w wr gE gS n ini E S o cap := by
  have ho := h.opens
  have hl : (ini ++ [f]).length = ini.length + 1 := by simp
  rw [hl, List.map_append] at ho
  obtain ⟨g, c, hv, hb, _⟩ := ho.form (by omega)
  simp only [Value.slice.injEq] at hv
  obtain ⟨rfl, _, rfl⟩ := hv
  obtain ⟨c1, c2⟩ := own_cap ho
  refine ⟨g, rfl, ?_, c1, c2, ⟨h.ends, h.elses, ?_, h.es, h.far, h.below⟩⟩
  · rw [ho.cellAt ini.length (by omega), List.getElem?_append_right (by simp), List.length_map, Nat.sub_self]
    rfl
  · exact ownsRow_pop (by simp) ho
end
set_option maxHeartbeats 4000000 in
set_option maxRecDepth 1000000 in
theorem nowhere_any (n : Nat) (hn : n ≤ 200) (w : World) :
    Calls Tryd.prog 60 #[.int .i64 n] w fun r w' => ∃ g, r = .returned (.slice (some ⟨g, 0, none⟩) n n) ∧ w.heap.size ≤ g ∧ g < w'.heap.size ∧ w'.ownsRow w.heap.size 3 1 (.slice (some ⟨g, 0, none⟩) n n) n ((List.replicate n (-1 : Int)).map (Value.int .i64)) ∧ Below w.heap.size w w' := by
  obtain ⟨i0, hi, hz0, hz1, hz2⟩ := info_parts Tryd.infoInt
  go_enter Tryd.func60, Tryd.ntmps60
  go_wp2_with (at_make; refine wpList_make_full _ rfl _ _ 74 rfl w.heap.size 3 i0 (.int .i64 0) 1 Tryd.underlying74 hi hz0 hz1 .i64 .i64 (n : Int) (n : Int) n rfl rfl rfl rfl ?b2 ?b3 (Nat.le_refl _) ?_)
  case b2 => rw [hz2]; omega
  case b3 => unfold maxLen; omega
  intro w2 hown hgrow
  obtain ⟨Z, hlz2, hownZ⟩ : ∃ Z : List Value, Z.length = n ∧ w2.ownsRow w.heap.size 3 1 (.slice (some ⟨w.heap.size, 0, none⟩) n n) n Z := ⟨_, by have := hown.1; simpa using this, hown⟩
  have HB : Hid (Below w.heap.size w w2) := (Below.refl _ _).grown hgrow (Nat.le_refl _) (fun j hj => by cases hj)
  have HLZ : Hid (Z.length = n) := hlz2
  have HOZ : Hid (type_of% hownZ) := hownZ
  clear hown hgrow hlz2 hz2 hownZ
  go_wp2
  go_loopw [9] (fun i wr => ∃ k : Nat, i = .int .i64 k ∧ k ≤ n ∧ Hid (wr.ownsRow w.heap.size 3 1 (.slice (some ⟨w.heap.size, 0, none⟩) n n) n ((List.replicate k (-1 : Int)).map (Value.int .i64) ++ Z.drop k)) ∧ Hid (Below w.heap.size w wr)) (fun i _ => n - (intOf i).toNat)
  case atStart => exact ⟨0, rfl, by omega, by simpa using HOZ, HB⟩
  case round =>
    obtain ⟨k, rfl, hk, HO, HBk⟩ := hrel
    clear HOZ HB
    by_cases hlt : k < n
    · have hki0 : (0 : Int) ≤ (k : Int) := by omega
      have hki1 : (k : Int) < (n : Int) := by omega
      have hst := (HO.out.stored k (.int .i64 (-1))).1
      have hfz := HO.out.frozenAt k
      have hcell : wr.cell? ⟨w.heap.size, k, none⟩ = some (Z.getD k (.int .i64 0)) := by
        rw [HO.out.cellAt k (by omega), List.getElem?_append_right (by simp), List.length_map, List.length_replicate, Nat.sub_self, List.getElem?_drop, Nat.add_zero, List.getElem?_eq_getElem (by rw [HLZ.out]; exact hlt), List.getD_eq_getElem?_getD, List.getElem?_eq_getElem (by rw [HLZ.out]; exact hlt)]
        rfl
      rw [set_step _ _ _ _ (by simp) (by rw [HLZ.out]; exact hlt)] at hst
      have HST : Hid ((wr.setCell ⟨w.heap.size, k, none⟩ (.int .i64 (-1))).ownsRow w.heap.size 3 1 (.slice (some ⟨w.heap.size, 0, none⟩) n n) n ((List.replicate (k + 1) (-1 : Int)).map (Value.int .i64) ++ Z.drop (k + 1))) := by
        unfold Hid
        rw [List.replicate_succ', List.map_append]
        exact hst
      have HB4 : Hid (Below w.heap.size w (wr.setCell ⟨w.heap.size, k, none⟩ (.int .i64 (-1)))) := HBk.out.setCell (Nat.le_refl _) _
      clear hst HO HBk
      go_wp2
      go_roundw
      case rel => exact ⟨k + 1, by go_num, by omega, HST, HB4⟩
      case measure => simp [intOf]; omega
    · have hkn : k = n := by omega
      subst hkn
      have HE : Hid (wr.ownsRow w.heap.size 3 1 (.slice (some ⟨w.heap.size, 0, none⟩) k k) k ((List.replicate k (-1 : Int)).map (Value.int .i64))) := by
        have := HO.out
        rw [List.drop_eq_nil_of_le (by rw [HLZ.out]; exact Nat.le_refl _), List.append_nil] at this
        exact this
      clear HO
      go_wp2
      go_ret
      exact ⟨w.heap.size, rfl, Nat.le_refl _, (HE.out.lt _ rfl).2, HE.out, HBk.out⟩
/-- What tie leaves of the ends. -/
def tieE (E S : List Int) (f t : Nat) : List Int := if S.getD f 0 = -1 then (E.set f (t : Int)).set t (f : Int) else ((E.set f (t : Int)).set t (f : Int)).set (S.getD f 0).toNat (t : Int)
set_option maxHeartbeats 4000000 in
set_option maxRecDepth 1000000 in
theorem tie_any (w wr : World) (gE gS n : Nat) (op : List Nat) (E S : List Int) (o : Option Addr) (cap f t : Nat) (h : MS w wr gE gS n op E S o cap) (hn : n ≤ 200) (hf : f < n) (ht : t < n) (hS : S.getD f 0 = -1 ∨ (0 ≤ S.getD f 0 ∧ S.getD f 0 < n)) :
    Calls Tryd.prog 61 #[.slice (some ⟨gE, 0, none⟩) n n, .slice (some ⟨gS, 0, none⟩) n n, .int .i64 f, .int .i64 t] wr fun r w' => r = .returned (.tuple #[]) ∧ MS w w' gE gS n op (tieE E S f t) S o cap := by
  have h1 := h.setE f t
  have h2 := h1.setE t f
  obtain ⟨c1, z1⟩ := h.cellE f hf
  obtain ⟨c2, z2⟩ := h1.cellE t ht
  obtain ⟨c3, z3⟩ := h2.cellS f hf
  have H2 : Hid (type_of% h2) := h2
  have hfi0 : (0 : Int) ≤ (f : Int) := by omega
  have hfi1 : (f : Int) < (n : Int) := by omega
  have hti0 : (0 : Int) ≤ (t : Int) := by omega
  have hti1 : (t : Int) < (n : Int) := by omega
  have hni : (n : Int) ≤ 200 := by omega
  have hse := h.es
  unfold tieE
  rcases hS with hS | ⟨s0, s1⟩
  · rw [if_pos hS]
    rw [hS] at c3
    clear h h1 h2
    go_enter Tryd.func61, Tryd.ntmps61
    go_wp2
    go_end0
    exact ⟨rfl, H2.out⟩
  · rw [if_neg (by omega)]
    obtain ⟨s, hs⟩ : ∃ s : Nat, S.getD f 0 = (s : Int) := ⟨(S.getD f 0).toNat, by omega⟩
    rw [hs] at c3 s0 s1 ⊢
    rw [Int.toNat_natCast]
    have h3 := h2.setE s t
    obtain ⟨c4, z4⟩ := h2.cellE s (by omega)
    have H3 : Hid (type_of% h3) := h3
    have hne : ((s : Int) == -1) = false := by rw [beq_eq_false_iff_ne]; omega
    have hnn : ((s : Int) != -1) = true := by rw [bne, hne]; rfl
    clear h h1 h2 h3 H2 hs
    go_enter Tryd.func61, Tryd.ntmps61
    go_wp2
    go_end0
    exact ⟨rfl, H3.out⟩

end Go.Proofs.YtkceplamaocmmaaDoor
namespace Go.Proofs.YtkceplamaocmmaaDoor
open Go.RowKit

/-- What is known of a match behind an instruction: the places that are open, the ends, the turns. -/
def mStep (k : Nat) (op : Int) (q : List Nat × List Int × List Int) : List Nat × List Int × List Int :=
  if op = 2 ∨ op = 3 ∨ op = 4 then (q.1 ++ [k], q.2.1, q.2.2)
  else if op = 5 then (match q.1.getLast? with | some f => (q.1, q.2.1, (q.2.2.set k (f : Int)).set f (k : Int)) | none => q)
  else if op = 11 then (match q.1.getLast? with | some f => (q.1.dropLast, tieE q.2.1 q.2.2 f k, q.2.2) | none => q)
  else q
def mRun : Nat → List InsD → List Nat × List Int × List Int → List Nat × List Int × List Int
  | _, [], q => q
  | k, d :: L, q => mRun (k + 1) L (mStep k d.op q)
theorem MS.push {w wa w2 : World} {gE gS n : Nat} {op : List Nat} {E S : List Int} {o : Option Addr} {cap g capg k : Nat} (h : MS w wa gE gS n op E S o cap) (hg : wa.grownBy w2 (Value.slice o op.length cap).ownBlock) (hown : w2.ownsRow w.heap.size 3 1 (.slice (some ⟨g, 0, none⟩) (op.length + 1) capg) (op.length + 1) ((op.map fun (p : Nat) => Value.int .i64 (p : Int)) ++ [.int .i64 (k : Int)])) (hat : (Value.slice o op.length cap).ownBlock = some g ∨ g = wa.heap.size) : MS w w2 gE gS n (op ++ [k]) E S (some ⟨g, 0, none⟩) capg := by
  have fE := far_block (k := op.length) (c := cap) fun g hg => (h.far g hg).1
  have fS := far_block (k := op.length) (c := cap) fun g hg => (h.far g hg).2
  refine ⟨h.ends.kept hg (Or.inr (by simp [Value.ownBlock]; exact fun e => fE e.symm)), h.elses.kept hg (Or.inr (by simp [Value.ownBlock]; exact fun e => fS e.symm)), ?_, h.es, ?_, h.below.grown hg h.below.size fun j hj => (h.opens.lt j hj).1⟩
  · rw [List.length_append, List.map_append]
    exact hown
  · intro a ha
    cases ha
    have lE := (h.ends.lt gE rfl).2
    have lS := (h.elses.lt gS rfl).2
    rcases hat with e | e
    · rw [e] at fE fS
      exact ⟨by simpa using fE, by simpa using fS⟩
    · simp only
      omega
/-- What holds between two instructions of a body that is well. -/
structure MI (n k : Nat) (op : List Nat) (S : List Int) (bs : List Int) : Prop where
  len : bs.length = op.length
  most : bs.length ≤ 12
  lt : ∀ p ∈ op, p < k
  turn : ∀ j, S.getD j 0 = -1 ∨ (0 ≤ S.getD j 0 ∧ S.getD j 0 < (n : Int)) ∨ n ≤ j
theorem nStep_ok (c op : Int) (bs : List Int) (en : Bool) (h : (nStep c op bs en).1 = 0) : c = 0 ∧ en = false := by
  unfold nStep at h
  split at h
  · rename_i hc
    exact absurd h hc
  · rename_i hc
    split at h
    · cases h
    · rename_i he
      exact ⟨by omega, by simpa using he⟩
theorem nStep_5 (bs : List Int) (h : (nStep 0 5 bs false).1 = 0) : ∃ ini, bs = ini ++ [4] ∧ nStep 0 5 bs false = (0, ini ++ [5], false) := by
  rcases List.eq_nil_or_concat bs with rfl | ⟨ini, x, rfl⟩
  · cases h
  · rw [List.concat_eq_append] at h ⊢
    have e : (ini ++ [x]).getLast? = some x := by simp
    have e2 : nStep 0 5 (ini ++ [x]) false = (match some x with | some 4 => ((0 : Int), (ini ++ [x]).dropLast ++ [5], false) | _ => (4, ini ++ [x], false)) := by
      unfold nStep
      rw [e]
      rfl
    rw [e2] at h ⊢
    by_cases hx : x = 4
    · subst hx
      exact ⟨ini, rfl, by rw [List.dropLast_concat]; rfl⟩
    · exfalso
      split at h
      · rename_i heq
        simp only [Option.some.injEq] at heq
        exact hx heq
      · cases h
theorem nStep_11 (ini : List Int) (x : Int) : nStep 0 11 (ini ++ [x]) false = (0, ini, false) := by
  unfold nStep
  rw [if_neg (by simp), if_neg (by simp), if_neg (by omega), if_neg (by omega), if_pos rfl, List.dropLast_concat]
  cases ini <;> rfl
theorem getD_set (S : List Int) (i j : Nat) (v : Int) : (S.set i v).getD j 0 = if i = j ∧ j < S.length then v else S.getD j 0 := by
  rw [List.getD_eq_getElem?_getD, List.getElem?_set, List.getD_eq_getElem?_getD]
  by_cases h : i = j
  · subst h
    by_cases h2 : i < S.length
    · simp [h2]
    · simp [h2]
  · simp [h]
theorem MI.set {n k : Nat} {op : List Nat} {S : List Int} {bs bs2 : List Int} (h : MI n k op S bs) (i : Nat) (v : Nat) (hv : v < n) (hl : bs2.length = bs.length) : MI n k op (S.set i (v : Int)) bs2 := by
  refine ⟨by rw [hl]; exact h.len, by rw [hl]; exact h.most, h.lt, fun j => ?_⟩
  rw [getD_set]
  split
  · exact Or.inr (Or.inl ⟨by omega, by omega⟩)
  · exact h.turn j
theorem MI.mono {n k : Nat} {op : List Nat} {S : List Int} {bs : List Int} (h : MI n k op S bs) : MI n (k + 1) op S bs := ⟨h.len, h.most, fun p hp => Nat.lt_succ_of_lt (h.lt p hp), h.turn⟩
set_option maxHeartbeats 4000000 in
set_option maxRecDepth 1000000 in
theorem match_err (o : Option Addr) (n cap : Nat) (e : Int) (_he : (e == 0) = false) (w : World) (HC : Hid (Calls Tryd.prog 7 #[.slice o n cap] w fun r w' => r = .returned (.int .i64 e) ∧ Below w.heap.size w w')) :
    Calls Tryd.prog 50 #[.slice o n cap] w fun r w' => r = .returned (.tuple #[.slice none 0 0, .slice none 0 0, .int .i64 e]) ∧ Below w.heap.size w w' := by
  have hne : (e != 0) = true := by rw [bne, _he]; rfl
  go_enter Tryd.func50, Tryd.ntmps50
  go_wp2_with fail
  refine HC.out.mono ?_
  rintro r w1 ⟨rfl, b1⟩
  go_wp2
  go_ret3
  exact ⟨rfl, b1⟩
set_option maxHeartbeats 16000000 in
set_option maxRecDepth 1000000 in
theorem match_core (o : Option Addr) (cap n : Nat) (L : List InsD) (Q : List Nat × List Int × List Int) (hl : L.length = n) (hn : n ≤ 200) (w : World) (h : LD w o L) (HRun : Hid ((nRun L [] false).1 = 0))
    (HC : Hid (Calls Tryd.prog 7 #[.slice o n cap] w fun r w' => r = .returned (.int .i64 0) ∧ Below w.heap.size w w')) (HQ0 : Hid (mRun 0 L ([], List.replicate n (-1), List.replicate n (-1)) = Q)) :
    Calls Tryd.prog 50 #[.slice o n cap] w fun r w' => ∃ gE gS o2 cap2, r = .returned (.tuple #[.slice (some ⟨gE, 0, none⟩) n n, .slice (some ⟨gS, 0, none⟩) n n, .int .i64 0]) ∧ MS w w' gE gS n Q.1 Q.2.1 Q.2.2 o2 cap2 := by
  obtain ⟨i0, hi, hz0, hz1, hz2⟩ := info_parts Tryd.infoInt
  have HLn : Hid (L.length = n) := hl
  have HLD : Hid (LD w o L) := h
  have HNW : Hid (∀ w, type_of% (nowhere_any n hn w)) := fun w => nowhere_any n hn w
  clear hl h
  have hni : (n : Int) ≤ 200 := by omega
  go_enter Tryd.func50, Tryd.ntmps50
  go_wp2_with fail
  refine HC.out.mono ?_
  rintro r w1 ⟨rfl, b1⟩
  go_wp2_with fail
  refine (HNW.out _).mono ?_
  rintro r w2 ⟨gE, rfl, gE0, gE1, o2, b2⟩
  go_wp2_with fail
  refine (HNW.out _).mono ?_
  rintro r w3 ⟨gS, rfl, gS0, gS1, o3, b3⟩
  have s1 := b1.size
  have s2 := b2.size
  have s3 := b3.size
  have HM0 : Hid (MS w w3 gE gS n [] (List.replicate n (-1)) (List.replicate n (-1)) none 0) :=
    ⟨ownsRow_down (own3_under o2 b3) s1, ownsRow_down o3 (by omega), World.ownsRow_nil _ _ _ _, by omega, by simp, (b1.trans (b2.mono s1)).trans (b3.mono (by omega))⟩
  have HI0 : Hid (MI n 0 [] (List.replicate n (-1)) []) := ⟨rfl, by simp, by simp, fun j => by
    by_cases hj : j < n
    · left
      rw [List.getD_eq_getElem?_getD, List.getElem?_replicate, if_pos hj]
      rfl
    · exact Or.inr (Or.inr (by omega))⟩
  clear b1 b2 b3 o2 o3 gE0 gE1 gS0 gS1 s1 s2 s3 HNW HC
  go_wp2
  go_loopw [8, 25] (fun v i wr => ∃ k : Nat, ∃ op : List Nat, ∃ E S bs : List Int, ∃ en : Bool, ∃ o2 : Option Addr, ∃ cap2 : Nat, v = .slice o2 op.length cap2 ∧ i = .int .i64 k ∧ k ≤ n ∧ Hid (MS w wr gE gS n op E S o2 cap2) ∧ Hid (MI n k op S bs) ∧ Hid ((nRun (L.drop k) bs en).1 = 0) ∧ Hid (mRun k (L.drop k) (op, E, S) = Q)) (fun _ i _ => n - (intOf i).toNat)
  case atStart => exact ⟨0, [], _, _, [], false, none, 0, rfl, rfl, by omega, HM0, HI0, HRun, HQ0⟩
  case round =>
    obtain ⟨k, op, E, S, bs, en, o2, cap2, rfl, rfl, hk, HM, HI, HR, HQ⟩ := hrel
    clear HM0 HI0 HRun HQ0
    by_cases hlt : k < n
    · have hkl : k < L.length := by rw [HLn.out]; exact hlt
      have hdr : L.drop k = L[k] :: L.drop (k + 1) := List.drop_eq_getElem_cons hkl
      rcases HLD.out.2 with h0 | ⟨b, f, rfl, hbw, hc⟩
      · exfalso; rw [h0] at hkl; simp at hkl
      obtain ⟨m0, m1, m2, m3⟩ := hc k hkl
      have HR1 := HR.out
      rw [hdr, nRun] at HR1
      have HQ1 := HQ.out
      rw [hdr, mRun] at HQ1
      have e0 := HM.out.below.cell (p := ⟨b, f + k * 4, none⟩) hbw
      have e1 := HM.out.below.cell (p := ⟨b, f + k * 4 + 1, none⟩) hbw
      have e2 := HM.out.below.cell (p := ⟨b, f + k * 4 + 2, none⟩) hbw
      have e3 := HM.out.below.cell (p := ⟨b, f + k * 4 + 3, none⟩) hbw
      rw [m0] at e0
      rw [m1] at e1
      rw [m2] at e2
      rw [m3] at e3
      generalize L[k] = d at e0 e1 e2 e3 HR1 HQ1
      clear hc m0 m1 m2 m3 hdr HR HQ
      have hok : (nStep (chkD d) d.op bs en).1 = 0 := by
        by_cases h0 : (nStep (chkD d) d.op bs en).1 = 0
        · exact h0
        · rw [if_neg h0] at HR1
          exact HR1
      rw [if_pos hok] at HR1
      obtain ⟨hchk, hen⟩ := nStep_ok _ _ _ _ hok
      rw [hchk, hen] at hok HR1
      obtain ⟨opd, hopd⟩ : ∃ x, d.op = x := ⟨_, rfl⟩
      rw [hopd] at e0 hok HR1 HQ1
      have HR2 : Hid (type_of% HR1) := HR1
      have HQ2 : Hid (type_of% HQ1) := HQ1
      have HOK : Hid ((nStep 0 opd bs false).1 = 0) := hok
      clear HR1 HQ1 hchk hen hopd hok
      have hki0 : (0 : Int) ≤ (k : Int) := by omega
      have hki1 : (k : Int) < (n : Int) := by omega
      obtain ⟨hcp, hcm⟩ := own_cap HM.out.opens
      have hmo := HI.out.most
      have hle := HI.out.len
      have hopl : (op.length : Int) ≤ 12 := by omega
      by_cases h2 : opd = 2 ∨ opd = 3 ∨ opd = 4
      · have HQ3 : Hid (mRun (k + 1) (L.drop (k + 1)) (op ++ [k], E, S) = Q) := by
          have := HQ2.out
          rw [mStep, if_pos h2] at this
          exact this
        have hl12 : bs.length ≠ 12 := by
          intro e
          have := HOK.out
          unfold nStep at this
          rw [if_neg (by simp), if_neg (by simp), if_pos h2, if_pos e] at this
          cases this
        have HR3 : Hid ((nRun (L.drop (k + 1)) (bs ++ [opd]) false).1 = 0) := by
          have := HR2.out
          unfold nStep at this
          rw [if_neg (by simp), if_neg (by simp), if_pos h2, if_neg hl12] at this
          exact this
        have HI3 : Hid (MI n (k + 1) (op ++ [k]) S (bs ++ [opd])) := ⟨by simp [HI.out.len], by simp; omega, fun p hp => by
          rcases List.mem_append.1 hp with h | h
          · exact Nat.lt_succ_of_lt (HI.out.lt p h)
          · simp at h; omega, HI.out.turn⟩
        clear HQ2 HR2 HOK HI
        have h62 : op.length + 1 ≤ 13 := by omega
        rcases h2 with rfl | rfl | rfl
        · have hMa := HM.out.under ((Below.refl wr.heap.size wr).alloc (Nat.le_refl _) (.cells #[.int .u8 2, .int .i64 d.A, .int .i64 d.B, .slice d.o d.n d.cap] 30))
          have HMb : Hid (type_of% (hMa.under ((Below.refl _ _).alloc (Nat.le_refl _) (.cells #[.int .i64 (k : Int)] 3)))) := hMa.under ((Below.refl _ _).alloc (Nat.le_refl _) (.cells #[.int .i64 (k : Int)] 3))
          have HNB : Hid (((wr.alloc (.cells #[.int .u8 2, .int .i64 d.A, .int .i64 d.B, .slice d.o d.n d.cap] 30)).alloc (.cells #[.int .i64 (k : Int)] 3)).heap[wr.heap.size + 1]? = some (.cells #[.int .i64 (k : Int)] 3 (0, 0))) := by
            have := heap_alloc_new (wr.alloc (.cells #[.int .u8 2, .int .i64 d.A, .int .i64 d.B, .slice d.o d.n d.cap] 30)) (.cells #[.int .i64 (k : Int)] 3)
            rw [World.size_alloc] at this
            exact this
          clear hMa
          go_wp2_with (at_builtin; refine wpList_append_lies _ rfl _ _ 74 rfl w.heap.size 3 i0 (.int .i64 0) 1 8 Tryd.underlying74 hi hz0 hz1 hz2 rfl (by omega) _ op.length (op.map fun (p : Nat) => Value.int .i64 (p : Int)) rfl HMb.out.opens ⟨wr.heap.size + 1, 0, none⟩ 1 1 [.int .i64 (k : Int)] rfl rfl (World.news_of_block (cs := #[.int .i64 (k : Int)]) (t := 3) (fr := (0, 0)) HNB.out) (by simp [Value.oneCell']) (by omega) (by unfold maxLen; omega) (by omega) HMb.out.below.size _ rfl ?_)
          intro g capg w5 hown hgrow hat hlt5
          have HM5 : Hid (MS w w5 gE gS n (op ++ [k]) E S (some ⟨g, 0, none⟩) capg) := HMb.out.push hgrow hown (by rw [World.size_alloc, World.size_alloc]; exact hat)
          clear hown hgrow hat hlt5 HMb HM
          go_wp2
          go_roundw
          case rel => exact ⟨k + 1, op ++ [k], E, S, bs ++ [2], false, _, capg, by simp, by go_num, by omega, HM5, HI3, HR3, HQ3⟩
          case measure => simp [intOf]; omega
        · have hMa := HM.out.under ((Below.refl wr.heap.size wr).alloc (Nat.le_refl _) (.cells #[.int .u8 3, .int .i64 d.A, .int .i64 d.B, .slice d.o d.n d.cap] 30))
          have HMb : Hid (type_of% (hMa.under ((Below.refl _ _).alloc (Nat.le_refl _) (.cells #[.int .i64 (k : Int)] 3)))) := hMa.under ((Below.refl _ _).alloc (Nat.le_refl _) (.cells #[.int .i64 (k : Int)] 3))
          have HNB : Hid (((wr.alloc (.cells #[.int .u8 3, .int .i64 d.A, .int .i64 d.B, .slice d.o d.n d.cap] 30)).alloc (.cells #[.int .i64 (k : Int)] 3)).heap[wr.heap.size + 1]? = some (.cells #[.int .i64 (k : Int)] 3 (0, 0))) := by
            have := heap_alloc_new (wr.alloc (.cells #[.int .u8 3, .int .i64 d.A, .int .i64 d.B, .slice d.o d.n d.cap] 30)) (.cells #[.int .i64 (k : Int)] 3)
            rw [World.size_alloc] at this
            exact this
          clear hMa
          go_wp2_with (at_builtin; refine wpList_append_lies _ rfl _ _ 74 rfl w.heap.size 3 i0 (.int .i64 0) 1 8 Tryd.underlying74 hi hz0 hz1 hz2 rfl (by omega) _ op.length (op.map fun (p : Nat) => Value.int .i64 (p : Int)) rfl HMb.out.opens ⟨wr.heap.size + 1, 0, none⟩ 1 1 [.int .i64 (k : Int)] rfl rfl (World.news_of_block (cs := #[.int .i64 (k : Int)]) (t := 3) (fr := (0, 0)) HNB.out) (by simp [Value.oneCell']) (by omega) (by unfold maxLen; omega) (by omega) HMb.out.below.size _ rfl ?_)
          intro g capg w5 hown hgrow hat hlt5
          have HM5 : Hid (MS w w5 gE gS n (op ++ [k]) E S (some ⟨g, 0, none⟩) capg) := HMb.out.push hgrow hown (by rw [World.size_alloc, World.size_alloc]; exact hat)
          clear hown hgrow hat hlt5 HMb HM
          go_wp2
          go_roundw
          case rel => exact ⟨k + 1, op ++ [k], E, S, bs ++ [3], false, _, capg, by simp, by go_num, by omega, HM5, HI3, HR3, HQ3⟩
          case measure => simp [intOf]; omega
        · have hMa := HM.out.under ((Below.refl wr.heap.size wr).alloc (Nat.le_refl _) (.cells #[.int .u8 4, .int .i64 d.A, .int .i64 d.B, .slice d.o d.n d.cap] 30))
          have HMb : Hid (type_of% (hMa.under ((Below.refl _ _).alloc (Nat.le_refl _) (.cells #[.int .i64 (k : Int)] 3)))) := hMa.under ((Below.refl _ _).alloc (Nat.le_refl _) (.cells #[.int .i64 (k : Int)] 3))
          have HNB : Hid (((wr.alloc (.cells #[.int .u8 4, .int .i64 d.A, .int .i64 d.B, .slice d.o d.n d.cap] 30)).alloc (.cells #[.int .i64 (k : Int)] 3)).heap[wr.heap.size + 1]? = some (.cells #[.int .i64 (k : Int)] 3 (0, 0))) := by
            have := heap_alloc_new (wr.alloc (.cells #[.int .u8 4, .int .i64 d.A, .int .i64 d.B, .slice d.o d.n d.cap] 30)) (.cells #[.int .i64 (k : Int)] 3)
            rw [World.size_alloc] at this
            exact this
          clear hMa
          go_wp2_with (at_builtin; refine wpList_append_lies _ rfl _ _ 74 rfl w.heap.size 3 i0 (.int .i64 0) 1 8 Tryd.underlying74 hi hz0 hz1 hz2 rfl (by omega) _ op.length (op.map fun (p : Nat) => Value.int .i64 (p : Int)) rfl HMb.out.opens ⟨wr.heap.size + 1, 0, none⟩ 1 1 [.int .i64 (k : Int)] rfl rfl (World.news_of_block (cs := #[.int .i64 (k : Int)]) (t := 3) (fr := (0, 0)) HNB.out) (by simp [Value.oneCell']) (by omega) (by unfold maxLen; omega) (by omega) HMb.out.below.size _ rfl ?_)
          intro g capg w5 hown hgrow hat hlt5
          have HM5 : Hid (MS w w5 gE gS n (op ++ [k]) E S (some ⟨g, 0, none⟩) capg) := HMb.out.push hgrow hown (by rw [World.size_alloc, World.size_alloc]; exact hat)
          clear hown hgrow hat hlt5 HMb HM
          go_wp2
          go_roundw
          case rel => exact ⟨k + 1, op ++ [k], E, S, bs ++ [4], false, _, capg, by simp, by go_num, by omega, HM5, HI3, HR3, HQ3⟩
          case measure => simp [intOf]; omega
      by_cases h5 : opd = 5
      · subst h5
        obtain ⟨ini4, hb4, hn5⟩ := nStep_5 bs HOK.out
        have hopne : op ≠ [] := by
          intro e
          have := HI.out.len
          rw [e, hb4] at this
          simp at this
        obtain ⟨ini, fp, hop⟩ : ∃ ini fp, op = ini ++ [fp] := by
          rcases List.eq_nil_or_concat op with h | ⟨i, x, h⟩
          · exact absurd h hopne
          · exact ⟨i, x, by rw [h, List.concat_eq_append]⟩
        subst hop
        have hfk : fp < k := HI.out.lt fp (by simp)
        have HQ3 : Hid (mRun (k + 1) (L.drop (k + 1)) (ini ++ [fp], E, (S.set k (fp : Int)).set fp (k : Int)) = Q) := by
          have := HQ2.out
          rw [mStep, if_neg h2, if_pos rfl] at this
          unfold Hid
          simpa using this
        have HR3 : Hid ((nRun (L.drop (k + 1)) (ini4 ++ [5]) false).1 = 0) := by
          have := HR2.out
          rw [hn5] at this
          exact this
        have HI3 : Hid (MI n (k + 1) (ini ++ [fp]) ((S.set k (fp : Int)).set fp (k : Int)) (ini4 ++ [5])) := ((HI.out.mono.set k fp (by omega) (by rw [hb4]; simp)).set fp k (by omega) rfl)
        have hMa := HM.out.under ((Below.refl wr.heap.size wr).alloc (Nat.le_refl _) (.cells #[.int .u8 5, .int .i64 d.A, .int .i64 d.B, .slice d.o d.n d.cap] 30))
        obtain ⟨gO, rfl, cO, _, _, _⟩ := hMa.lasts
        have hb1 := hMa.setS k fp
        have hb2 := hb1.setS fp k
        obtain ⟨cS1, zS1⟩ := hMa.cellS k hlt
        obtain ⟨cS2, zS2⟩ := hb1.cellS fp (by omega)
        have hgO : gO ≠ gS := (hMa.far _ rfl).2
        have hS2 : (wr.alloc (.cells #[.int .u8 5, .int .i64 d.A, .int .i64 d.B, .slice d.o d.n d.cap] 30)).cell? ⟨gS, fp, none⟩ = some (.int .i64 (S.getD fp 0)) := (hMa.cellS fp (by omega)).1
        have zS3 := (hMa.cellS fp (by omega)).2
        have HM2 : Hid (type_of% hb2) := hb2
        clear HQ2 HR2 HOK HI hb1 hb2 hMa
        have hll : ((ini ++ [fp]).length : Int) = (ini.length : Int) + 1 := by simp
        have hlln : (ini ++ [fp]).length = ini.length + 1 := by simp
        rw [hlln] at hopl hcp ⊢
        have hfi0 : (0 : Int) ≤ (fp : Int) := by omega
        have hfi1 : (fp : Int) < (n : Int) := by omega
        have hii0 : (0 : Int) ≤ (ini.length : Int) := by omega
        go_wp2
        go_region
        all_goals
          go_wp2
          go_roundw
          case rel => exact ⟨k + 1, ini ++ [fp], E, _, ini4 ++ [5], false, _, cap2, by rw [hlln], by go_num, by omega, HM2.out.drew, HI3, HR3, HQ3⟩
          case measure => simp [intOf]; omega
      by_cases h11 : opd = 11
      · subst h11
        rcases List.eq_nil_or_concat op with hop | ⟨ini, fp, hop⟩
        · subst hop
          have hbs0 : bs = [] := List.length_eq_zero_iff.1 (by rw [HI.out.len]; rfl)
          have HQ3 : Hid (mRun (k + 1) (L.drop (k + 1)) ([], E, S) = Q) := by
            have := HQ2.out
            rw [mStep, if_neg h2, if_neg h5, if_pos rfl] at this
            exact this
          have HR3 : Hid ((nRun (L.drop (k + 1)) [] true).1 = 0) := by
            have := HR2.out
            rw [hbs0] at this
            exact this
          have HI3 : Hid (MI n (k + 1) [] S []) := by
            have := HI.out.mono
            rw [hbs0] at this
            exact this
          have HM2 : Hid (type_of% (HM.out.under ((Below.refl wr.heap.size wr).alloc (Nat.le_refl _) (.cells #[.int .u8 11, .int .i64 d.A, .int .i64 d.B, .slice d.o d.n d.cap] 30)))) := HM.out.under ((Below.refl wr.heap.size wr).alloc (Nat.le_refl _) (.cells #[.int .u8 11, .int .i64 d.A, .int .i64 d.B, .slice d.o d.n d.cap] 30))
          clear HQ2 HR2 HOK HI
          rw [List.length_nil]
          go_wp2
          go_roundw
          case rel => exact ⟨k + 1, [], E, S, [], true, o2, cap2, rfl, by go_num, by omega, HM2, HI3, HR3, HQ3⟩
          case measure => simp [intOf]; omega
        · rw [List.concat_eq_append] at hop
          subst hop
          have hbne : bs ≠ [] := by
            intro e
            have := HI.out.len
            rw [e] at this
            simp at this
          obtain ⟨inib, xb, hb⟩ : ∃ ini fp, bs = ini ++ [fp] := by
            rcases List.eq_nil_or_concat bs with h | ⟨i, x, h⟩
            · exact absurd h hbne
            · exact ⟨i, x, by rw [h, List.concat_eq_append]⟩
          subst hb
          have hfk : fp < k := HI.out.lt fp (by simp)
          have HQ3 : Hid (mRun (k + 1) (L.drop (k + 1)) (ini, tieE E S fp k, S) = Q) := by
            have := HQ2.out
            rw [mStep, if_neg h2, if_neg h5, if_pos rfl] at this
            unfold Hid
            simpa using this
          have HR3 : Hid ((nRun (L.drop (k + 1)) inib false).1 = 0) := by
            have := HR2.out
            rw [nStep_11] at this
            exact this
          have HI3 : Hid (MI n (k + 1) ini S inib) := by
            have hh := HI.out
            have h1 := hh.len
            have h3 := hh.most
            simp at h1 h3
            exact ⟨h1, by omega, fun p hp => Nat.lt_succ_of_lt (hh.lt p (by simp [hp])), hh.turn⟩
          have hMa := HM.out.under ((Below.refl wr.heap.size wr).alloc (Nat.le_refl _) (.cells #[.int .u8 11, .int .i64 d.A, .int .i64 d.B, .slice d.o d.n d.cap] 30))
          obtain ⟨gO, rfl, cO, hc1, hc2, hpop⟩ := hMa.lasts
          have hturn : S.getD fp 0 = -1 ∨ (0 ≤ S.getD fp 0 ∧ S.getD fp 0 < (n : Int)) := by
            rcases HI.out.turn fp with h | h | h
            · exact Or.inl h
            · exact Or.inr h
            · omega
          have HT : Hid (type_of% (tie_any w _ gE gS n ini E S _ cap2 fp k hpop hn (by omega) hlt hturn)) := tie_any w _ gE gS n ini E S _ cap2 fp k hpop hn (by omega) hlt hturn
          clear HQ2 HR2 HOK HI hMa hpop hturn
          have hlln : (ini ++ [fp]).length = ini.length + 1 := by simp
          rw [hlln] at hopl hcp ⊢
          have hii0 : (0 : Int) ≤ (ini.length : Int) := by omega
          have hic : (ini.length : Int) ≤ (cap2 : Int) := by omega
          have hnlt : ¬ ((ini.length : Int) < 0) := by omega
          go_wp2_with fail
          refine HT.out.mono ?_
          rintro r w5 ⟨rfl, m5⟩
          have HM5 : Hid (type_of% m5) := m5
          clear m5 HT cO
          go_wp2
          go_roundw
          case rel => exact ⟨k + 1, ini, _, S, inib, false, _, cap2, by go_num, by go_num, by omega, HM5, HI3, HR3, HQ3⟩
          case measure => simp [intOf]; omega
      have HQ3 : Hid (mRun (k + 1) (L.drop (k + 1)) (op, E, S) = Q) := by
        have := HQ2.out
        rw [mStep, if_neg h2, if_neg h5, if_neg h11] at this
        exact this
      have HR3 : Hid ((nRun (L.drop (k + 1)) bs false).1 = 0) := by
        have := HR2.out
        unfold nStep at this
        rw [if_neg (by simp), if_neg (by simp), if_neg h2, if_neg h5, if_neg h11] at this
        exact this
      have HI3 : Hid (MI n (k + 1) op S bs) := HI.out.mono
      have ne : ∀ j : Int, opd ≠ j → (opd == j) = false := fun j hj => by rw [beq_eq_false_iff_ne]; exact hj
      have q2 := ne 2 (fun e => h2 (Or.inl e))
      have q3 := ne 3 (fun e => h2 (Or.inr (Or.inl e)))
      have q4 := ne 4 (fun e => h2 (Or.inr (Or.inr e)))
      have q5 := ne 5 h5
      have q11 := ne 11 h11
      have HM2 : Hid (type_of% (HM.out.under ((Below.refl wr.heap.size wr).alloc (Nat.le_refl _) (.cells #[.int .u8 opd, .int .i64 d.A, .int .i64 d.B, .slice d.o d.n d.cap] 30)))) := HM.out.under ((Below.refl wr.heap.size wr).alloc (Nat.le_refl _) (.cells #[.int .u8 opd, .int .i64 d.A, .int .i64 d.B, .slice d.o d.n d.cap] 30))
      clear HQ2 HR2 HOK HI h2 h5 h11
      go_wp2
      go_roundw
      case rel => exact ⟨k + 1, op, E, S, bs, false, o2, cap2, rfl, by go_num, by omega, HM2, HI3, HR3, HQ3⟩
      case measure => simp [intOf]; omega
    · have HE : Hid ((op, E, S) = Q) := by
        have := HQ.out
        rw [List.drop_eq_nil_of_le (by rw [HLn.out]; omega), mRun] at this
        exact this
      have HMF : Hid (MS w wr gE gS n Q.1 Q.2.1 Q.2.2 o2 cap2) := by
        unfold Hid
        rw [← HE.out]
        exact HM.out
      clear HM HE HQ HR HI
      go_wp2
      go_ret3
      exact ⟨gE, gS, o2, cap2, rfl, HMF.out⟩
end Go.Proofs.YtkceplamaocmmaaDoor
namespace Go.Proofs.YtkceplamaocmmaaDoor

/-- What opens a block. -/
def isO (x : Int) : Prop := x = 2 ∨ x = 3 ∨ x = 4
/-- An open block: where it was opened, and by what. -/
def OpK (ops : Nat → Int) (k : Nat) (S : List Int) (x : Nat × Int) : Prop :=
  isO (ops x.1) ∧ x.1 < k ∧ ((x.2 = 5 ∧ ops x.1 = 4 ∧ ∃ h : Nat, S.getD x.1 0 = (h : Int) ∧ x.1 < h ∧ h < k ∧ ops h = 5 ∧ S.getD h 0 = (x.1 : Int)) ∨ (x.2 = ops x.1 ∧ S.getD x.1 0 = -1))
/-- A block that is closed. -/
def ClK (ops : Nat → Int) (k : Nat) (E S : List Int) (p q : Nat) : Prop :=
  E.getD p 0 = (q : Int) ∧ p < q ∧ q < k ∧ ops q = 11 ∧ E.getD q 0 = (p : Int) ∧ (S.getD p 0 = -1 ∨ ∃ h : Nat, S.getD p 0 = (h : Int) ∧ p < h ∧ h < q ∧ ops p = 4 ∧ ops h = 5 ∧ S.getD h 0 = (p : Int) ∧ E.getD h 0 = (q : Int))
structure Inv (ops : Nat → Int) (n k : Nat) (st : List (Nat × Int)) (E S : List Int) : Prop where
  lenE : E.length = n
  lenS : S.length = n
  kn : k ≤ n
  sorted : (st.map Prod.fst).Pairwise (· < ·)
  kind : ∀ x ∈ st, OpK ops k S x
  closed : ∀ p, p < k → isO (ops p) → p ∉ st.map Prod.fst → ∃ q, ClK ops k E S p q
  nest : ∀ p1 p2, p1 < p2 → p2 < k → isO (ops p1) → isO (ops p2) → p1 ∉ st.map Prod.fst → (p2 ∈ st.map Prod.fst → E.getD p1 0 < (p2 : Int)) ∧ (p2 ∉ st.map Prod.fst → E.getD p2 0 < E.getD p1 0 ∨ E.getD p1 0 < (p2 : Int))
  fresh : ∀ p, k ≤ p → p < n → S.getD p 0 = -1
theorem OpK.mono {ops : Nat → Int} {k : Nat} {S : List Int} {x : Nat × Int} (h : OpK ops k S x) : OpK ops (k + 1) S x := by
  obtain ⟨h1, h2, h3⟩ := h
  refine ⟨h1, by omega, ?_⟩
  rcases h3 with ⟨a, b, hh, c, d, e, f⟩ | h
  · exact Or.inl ⟨a, b, hh, c, d, by omega, f⟩
  · exact Or.inr h
theorem ClK.mono {ops : Nat → Int} {k : Nat} {E S : List Int} {p q : Nat} (h : ClK ops k E S p q) : ClK ops (k + 1) E S p q := by
  obtain ⟨a, b, c, d⟩ := h
  exact ⟨a, b, by omega, d⟩
section
variable {ops : Nat → Int} {n k : Nat} {st ini : List (Nat × Int)} {E S : List Int}
theorem Inv.push (h : Inv ops n k st E S) (hk : k < n) (ho : isO (ops k)) : Inv ops n (k + 1) (st ++ [(k, ops k)]) E S := by
  have hmem : ∀ p, p ∈ (st ++ [(k, ops k)]).map Prod.fst ↔ (p ∈ st.map Prod.fst ∨ p = k) := by
    intro p
    rw [List.map_append, List.mem_append]
    simp
  refine ⟨h.lenE, h.lenS, by omega, ?_, ?_, ?_, ?_, fun p hp hn => h.fresh p (by omega) hn⟩
  · rw [List.map_append, List.pairwise_append]
    refine ⟨h.sorted, by simp, fun a ha b hb => ?_⟩
    simp at hb
    subst hb
    obtain ⟨x, hx, rfl⟩ := List.mem_map.1 ha
    exact (h.kind x hx).2.1
  · intro x hx
    rcases List.mem_append.1 hx with hx | hx
    · exact (h.kind x hx).mono
    · simp at hx
      subst hx
      exact ⟨ho, by simp, Or.inr ⟨rfl, h.fresh k (Nat.le_refl _) hk⟩⟩
  · intro p hp hop hno
    rw [hmem] at hno
    obtain ⟨q, hq⟩ := h.closed p (by omega) hop (fun e => hno (Or.inl e))
    exact ⟨q, hq.mono⟩
  · intro p1 p2 h12 h2 o1 o2 hno
    rw [hmem] at hno
    have hn1 : p1 ∉ st.map Prod.fst := fun e => hno (Or.inl e)
    rw [hmem]
    by_cases hpk : p2 = k
    · subst hpk
      obtain ⟨q, hq⟩ := h.closed p1 h12 o1 hn1
      refine ⟨fun _ => by rw [hq.1]; have := hq.2.2.1; omega, fun hx => absurd (Or.inr rfl) hx⟩
    · obtain ⟨a, b⟩ := h.nest p1 p2 h12 (by omega) o1 o2 hn1
      refine ⟨fun hx => ?_, fun hx => b fun e => hx (Or.inl e)⟩
      rcases hx with hx | hx
      · exact a hx
      · exact absurd hx hpk
theorem Inv.skip (h : Inv ops n k st E S) (hk : k < n) (ho : ¬ isO (ops k)) : Inv ops n (k + 1) st E S := by
  refine ⟨h.lenE, h.lenS, by omega, h.sorted, fun x hx => (h.kind x hx).mono, ?_, ?_, fun p hp hn => h.fresh p (by omega) hn⟩
  · intro p hp hop hno
    have : p ≠ k := fun e => ho (e ▸ hop)
    obtain ⟨q, hq⟩ := h.closed p (by omega) hop hno
    exact ⟨q, hq.mono⟩
  · intro p1 p2 h12 h2 o1 o2 hno
    have : p2 ≠ k := fun e => ho (e ▸ o2)
    exact h.nest p1 p2 h12 (by omega) o1 o2 hno
theorem last_gt {ini : List (Nat × Int)} {f : Nat} {b : Int} (hs : ((ini ++ [(f, b)]).map Prod.fst).Pairwise (· < ·)) : ∀ p ∈ ini.map Prod.fst, p < f := by
  rw [List.map_append, List.pairwise_append] at hs
  intro p hp
  exact hs.2.2 p hp f (by simp)
theorem Inv.turn {f : Nat} (h : Inv ops n k (ini ++ [(f, 4)]) E S) (hk : k < n) (ho : ops k = 5) : Inv ops n (k + 1) (ini ++ [(f, 5)]) E ((S.set k (f : Int)).set f (k : Int)) := by
  have hno : ¬ isO (ops k) := by rw [ho]; unfold isO; omega
  have hF := h.kind (f, 4) (by simp)
  obtain ⟨hfo, hfk, hfx⟩ := hF
  have hf4 : ops f = 4 ∧ S.getD f 0 = -1 := by
    rcases hfx with ⟨a, _⟩ | ⟨a, b⟩
    · exfalso; simp at a
    · exact ⟨a.symm, b⟩
  have hfn : f < n := by simp only at hfk; omega
  have hsame : (ini ++ [(f, (5 : Int))]).map Prod.fst = (ini ++ [(f, (4 : Int))]).map Prod.fst := by simp
  have gS : ∀ p, ((S.set k (f : Int)).set f (k : Int)).getD p 0 = if p = f then (k : Int) else if p = k then (f : Int) else S.getD p 0 := by
    intro p
    rw [getD_set, List.length_set, getD_set, h.lenS]
    by_cases h1 : p = f
    · subst h1
      rw [if_pos ⟨rfl, hfn⟩, if_pos rfl]
    · rw [if_neg (fun e => h1 e.1.symm), if_neg h1]
      by_cases h2 : p = k
      · subst h2
        rw [if_pos ⟨rfl, hk⟩, if_pos rfl]
      · rw [if_neg (fun e => h2 e.1.symm), if_neg h2]
  have hlg := last_gt h.sorted
  have keep : ∀ p, p ≠ f → p ≠ k → ((S.set k (f : Int)).set f (k : Int)).getD p 0 = S.getD p 0 := by
    intro p h1 h2
    rw [gS, if_neg h1, if_neg h2]
  have keep5 : ∀ p, ops p = 5 → p < k → ((S.set k (f : Int)).set f (k : Int)).getD p 0 = S.getD p 0 := by
    intro p h1 h2
    refine keep p (fun e => ?_) (by omega)
    subst e
    rw [hf4.1] at h1
    cases h1
  simp only at hfk
  refine ⟨h.lenE, by rw [List.length_set, List.length_set]; exact h.lenS, by omega, by rw [hsame]; exact h.sorted, ?_, ?_, ?_, ?_⟩
  · intro x hx
    rcases List.mem_append.1 hx with hx | hx
    · have hxk := h.kind x (by simp [hx])
      have hxf : x.1 < f := hlg x.1 (List.mem_map.2 ⟨x, hx, rfl⟩)
      obtain ⟨a, b, c⟩ := hxk
      refine ⟨a, by omega, ?_⟩
      rw [keep x.1 (by omega) (by omega)]
      rcases c with ⟨c1, c2, hh, c3, c4, c5, c6, c7⟩ | c
      · exact Or.inl ⟨c1, c2, hh, c3, c4, by omega, c6, by rw [keep5 hh c6 c5]; exact c7⟩
      · exact Or.inr c
    · simp at hx
      subst hx
      refine ⟨hfo, by simp only; omega, Or.inl ⟨rfl, hf4.1, k, ?_, hfk, by omega, ho, ?_⟩⟩
      · rw [gS, if_pos rfl]
      · simp only
        rw [gS, if_neg (by omega), if_pos rfl]
  · intro p hp hop hno2
    rw [hsame] at hno2
    have hpk : p ≠ k := fun e => hno (e ▸ hop)
    have hpf : p ≠ f := fun e => hno2 (by simp [e])
    obtain ⟨q, hq⟩ := h.closed p (by omega) hop hno2
    refine ⟨q, hq.1, hq.2.1, by have := hq.2.2.1; omega, hq.2.2.2.1, hq.2.2.2.2.1, ?_⟩
    rw [keep p hpf hpk]
    rcases hq.2.2.2.2.2 with c | ⟨hh, c1, c2, c3, c4, c5, c6, c7⟩
    · exact Or.inl c
    · exact Or.inr ⟨hh, c1, c2, c3, c4, c5, by rw [keep5 hh c5 (by have := hq.2.2.1; omega)]; exact c6, c7⟩
  · intro p1 p2 h12 h2 o1 o2 hno2
    rw [hsame] at hno2 ⊢
    have : p2 ≠ k := fun e => hno (e ▸ o2)
    exact h.nest p1 p2 h12 (by omega) o1 o2 hno2
  · intro p hp hpn
    rw [keep p (by omega) (by omega)]
    exact h.fresh p (by omega) hpn
theorem Inv.pop {f : Nat} {b : Int} (h : Inv ops n k (ini ++ [(f, b)]) E S) (hk : k < n) (ho : ops k = 11) : Inv ops n (k + 1) ini (tieE E S f k) S := by
  have hno : ¬ isO (ops k) := by rw [ho]; unfold isO; omega
  obtain ⟨hfo, hfk, hfx⟩ := h.kind (f, b) (by simp)
  simp only at hfo hfk hfx
  have hmem : ∀ p, p ∈ (ini ++ [(f, b)]).map Prod.fst ↔ (p ∈ ini.map Prod.fst ∨ p = f) := by
    intro p
    rw [List.map_append, List.mem_append]
    simp
  have hlg := last_gt h.sorted
  -- what the ends hold
  obtain ⟨H, hH, gE⟩ : ∃ H : Option Nat, (S.getD f 0 = -1 ∧ H = none ∨ ∃ hh : Nat, H = some hh ∧ S.getD f 0 = (hh : Int) ∧ f < hh ∧ hh < k ∧ ops f = 4 ∧ ops hh = 5 ∧ S.getD hh 0 = (f : Int)) ∧ ∀ p, p < n → (tieE E S f k).getD p 0 = if some p = H then (k : Int) else if p = k then (f : Int) else if p = f then (k : Int) else E.getD p 0 := by
    have base : ∀ p, ((E.set f (k : Int)).set k (f : Int)).getD p 0 = if p = k then (f : Int) else if p = f then (k : Int) else E.getD p 0 := by
      intro p
      rw [getD_set, List.length_set, getD_set, h.lenE]
      by_cases h1 : p = k
      · subst h1
        rw [if_pos ⟨rfl, hk⟩, if_pos rfl]
      · rw [if_neg (fun e => h1 e.1.symm), if_neg h1]
        by_cases h2 : p = f
        · subst h2
          rw [if_pos ⟨rfl, by omega⟩, if_pos rfl]
        · rw [if_neg (fun e => h2 e.1.symm), if_neg h2]
    rcases hfx with ⟨_, c2, hh, c3, c4, c5, c6, c7⟩ | ⟨_, c⟩
    · refine ⟨some hh, Or.inr ⟨hh, rfl, c3, c4, c5, c2, c6, c7⟩, fun p hp => ?_⟩
      unfold tieE
      rw [if_neg (by rw [c3]; omega), c3, Int.toNat_natCast, getD_set, List.length_set, List.length_set, h.lenE]
      by_cases h1 : p = hh
      · subst h1
        rw [if_pos ⟨rfl, hp⟩, if_pos rfl]
      · rw [if_neg (fun e => h1 e.1.symm), if_neg (fun e => h1 (by simpa using e)), base]
    · refine ⟨none, Or.inl ⟨c, rfl⟩, fun p _ => ?_⟩
      unfold tieE
      rw [if_pos c, base]
      simp
  have Hno : ∀ p, some p = H → ops p = 5 ∧ S.getD p 0 = (f : Int) ∧ p < k := by
    intro p hp
    rcases hH with ⟨_, e⟩ | ⟨hh, e, _, _, c, _, d, g⟩
    · rw [e] at hp; cases hp
    · rw [e] at hp
      cases hp
      exact ⟨d, g, c⟩
  have keep : ∀ p, p < n → p ≠ k → p ≠ f → some p ≠ H → (tieE E S f k).getD p 0 = E.getD p 0 := by
    intro p hp h1 h2 h3
    rw [gE p hp, if_neg h3, if_neg h1, if_neg h2]
  have keepO : ∀ p, p < k → isO (ops p) → p ≠ f → (tieE E S f k).getD p 0 = E.getD p 0 := by
    intro p hp hop hpf
    refine keep p (by omega) (by omega) hpf fun e => ?_
    have := (Hno p e).1
    rw [this] at hop
    unfold isO at hop
    omega
  have hEf : (tieE E S f k).getD f 0 = (k : Int) := by
    have hfH : some f ≠ H := fun e => by
      have := (Hno f e).1
      rw [this] at hfo
      unfold isO at hfo
      omega
    rw [gE f (by omega), if_neg hfH, if_neg (by omega), if_pos rfl]
  have hEk : (tieE E S f k).getD k 0 = (f : Int) := by
    have hkH : some k ≠ H := fun e => by
      have := (Hno k e).2.2
      omega
    rw [gE k hk, if_neg hkH, if_pos rfl]
  refine ⟨?_, h.lenS, by omega, ?_, fun x hx => (h.kind x (by simp [hx])).mono, ?_, ?_, fun p hp hn => h.fresh p (by omega) hn⟩
  · unfold tieE
    split
    · rw [List.length_set, List.length_set]; exact h.lenE
    · rw [List.length_set, List.length_set, List.length_set]; exact h.lenE
  · have := h.sorted
    rw [List.map_append, List.pairwise_append] at this
    exact this.1
  · intro p hp hop hno2
    have hpk : p ≠ k := fun e => hno (e ▸ hop)
    by_cases hpf : p = f
    · subst hpf
      refine ⟨k, hEf, hfk, by omega, ho, hEk, ?_⟩
      rcases hH with ⟨c, _⟩ | ⟨hh, e, c1, c2, c3, c4, c5, c6⟩
      · exact Or.inl c
      · refine Or.inr ⟨hh, c1, c2, c3, c4, c5, c6, ?_⟩
        rw [gE hh (by omega), if_pos e.symm]
    · obtain ⟨q, q1, q2, q3, q4, q5, q6⟩ := h.closed p (by omega) hop (fun e => by rw [hmem] at e; rcases e with e | e; exact hno2 e; exact hpf e)
      refine ⟨q, by rw [keepO p (by omega) hop hpf]; exact q1, q2, by omega, q4, ?_, ?_⟩
      · rw [keep q (by omega) (by omega) (fun e => by subst e; rw [q4] at hfo; unfold isO at hfo; omega) (fun e => by have := (Hno q e).1; omega)]
        exact q5
      · rcases q6 with c | ⟨hh, c1, c2, c3, c4, c5, c6, c7⟩
        · exact Or.inl c
        · refine Or.inr ⟨hh, c1, c2, c3, c4, c5, c6, ?_⟩
          rw [keep hh (by omega) (by omega) (fun e => by subst e; rw [c5] at hfo; unfold isO at hfo; omega) (fun e => by have := (Hno hh e).2.1; rw [c6] at this; omega)]
          exact c7
  · intro p1 p2 h12 h2 o1 o2 hno2
    have hp2k : p2 ≠ k := fun e => hno (e ▸ o2)
    by_cases hp1 : p1 = f
    · subst hp1
      have hp2n : p2 ∉ (ini ++ [(p1, b)]).map Prod.fst := fun e => by
        rw [hmem] at e
        rcases e with e | e
        · exact Nat.lt_irrefl _ (Nat.lt_trans h12 (hlg p2 e))
        · rw [e] at h12; exact Nat.lt_irrefl _ h12
      obtain ⟨q, q1, q2, q3, _⟩ := h.closed p2 (Nat.lt_of_le_of_ne (Nat.le_of_lt_succ h2) hp2k) o2 hp2n
      refine ⟨fun e => absurd ((hmem p2).2 (Or.inl e)) hp2n, fun _ => Or.inl ?_⟩
      rw [keepO p2 (Nat.lt_of_le_of_ne (Nat.le_of_lt_succ h2) hp2k) o2 (fun e => by rw [e] at h12; exact Nat.lt_irrefl _ h12), hEf, q1]
      exact Int.ofNat_lt.2 q3
    · have hp1n : p1 ∉ (ini ++ [(f, b)]).map Prod.fst := fun e => by
        rw [hmem] at e
        rcases e with e | e
        · exact hno2 e
        · exact hp1 e
      obtain ⟨a, c⟩ := h.nest p1 p2 h12 (by omega) o1 o2 hp1n
      rw [keepO p1 (by omega) o1 hp1]
      refine ⟨fun e => a ((hmem p2).2 (Or.inl e)), fun e => ?_⟩
      by_cases hp2 : p2 = f
      · exact Or.inr (a ((hmem p2).2 (Or.inr hp2)))
      · rw [keepO p2 (by omega) o2 hp2]
        exact c fun e2 => by
          rw [hmem] at e2
          rcases e2 with e2 | e2
          · exact e e2
          · exact hp2 e2
end
end Go.Proofs.YtkceplamaocmmaaDoor
namespace Go.Proofs.YtkceplamaocmmaaDoor

theorem nRun_ok (d : InsD) (L : List InsD) (bs : List Int) (en : Bool) (h : (nRun (d :: L) bs en).1 = 0) : (nStep (chkD d) d.op bs en).1 = 0 ∧ nRun (d :: L) bs en = nRun L (nStep (chkD d) d.op bs en).2.1 (nStep (chkD d) d.op bs en).2.2 := by
  by_cases h0 : (nStep (chkD d) d.op bs en).1 = 0
  · exact ⟨h0, by rw [nRun, if_pos h0]⟩
  · rw [nRun, if_neg h0] at h
    exact absurd h h0
theorem run_inv (ops : Nat → Int) (n : Nat) : ∀ (L : List InsD) (k : Nat) (st : List (Nat × Int)) (E S : List Int) (en : Bool), Inv ops n k st E S → (en = true → st = []) → (∀ i (h : i < L.length), ops (k + i) = (L[i]).op) → k + L.length = n → (nRun L (st.map Prod.snd) en).1 = 0 →
    ∃ st' : List (Nat × Int), (nRun L (st.map Prod.snd) en).2.1 = st'.map Prod.snd ∧ (mRun k L (st.map Prod.fst, E, S)).1 = st'.map Prod.fst ∧ Inv ops n n st' (mRun k L (st.map Prod.fst, E, S)).2.1 (mRun k L (st.map Prod.fst, E, S)).2.2 ∧ ((nRun L (st.map Prod.snd) en).2.2 = true → st' = [])
  | [], k, st, E, S, en, hI, hen, _, hk, _ => by
    simp at hk
    subst hk
    exact ⟨st, rfl, rfl, hI, hen⟩
  | d :: L, k, st, E, S, en, hI, hen, hops, hk, hr => by
    obtain ⟨h0, hrun⟩ := nRun_ok d L _ en hr
    rw [hrun] at hr ⊢
    obtain ⟨hc, he⟩ := nStep_ok _ _ _ _ h0
    rw [hc, he] at h0 hr ⊢
    have hkn : k < n := by simp at hk; omega
    have hop : ops k = d.op := by have := hops 0 (by simp); simpa using this
    have hops' : ∀ i (h : i < L.length), ops (k + 1 + i) = (L[i]).op := by
      intro i h
      have := hops (i + 1) (by simp; omega)
      rw [show k + (i + 1) = k + 1 + i by omega] at this
      simpa using this
    have hk' : k + 1 + L.length = n := by simp at hk; omega
    rw [mRun]
    by_cases h2 : d.op = 2 ∨ d.op = 3 ∨ d.op = 4
    · have hl : (st.map Prod.snd).length ≠ 12 := by
        intro e
        unfold nStep at h0
        rw [if_neg (by simp), if_neg (by simp), if_pos h2, if_pos e] at h0
        cases h0
      have e1 : nStep 0 d.op (st.map Prod.snd) false = (0, (st ++ [(k, ops k)]).map Prod.snd, false) := by
        unfold nStep
        rw [if_neg (by simp), if_neg (by simp), if_pos h2, if_neg hl, List.map_append, hop]
        rfl
      have e2 : mStep k d.op (st.map Prod.fst, E, S) = ((st ++ [(k, ops k)]).map Prod.fst, E, S) := by
        unfold mStep
        rw [if_pos h2, List.map_append]
        rfl
      rw [e1] at hr ⊢
      rw [e2]
      exact run_inv ops n L (k + 1) _ E S false (hI.push hkn (by rw [hop]; exact h2)) (fun h => by cases h) hops' hk' hr
    by_cases h5 : d.op = 5
    · rw [h5] at h0 hr ⊢
      obtain ⟨ini4, hb4, hn5⟩ := nStep_5 _ h0
      obtain ⟨ini, f, hst⟩ : ∃ ini f, st = ini ++ [(f, (4 : Int))] := by
        rcases List.eq_nil_or_concat st with h | ⟨i, x, h⟩
        · rw [h] at hb4; simp at hb4
        · rw [List.concat_eq_append] at h
          rw [h, List.map_append] at hb4
          have h1 := List.append_inj_right' hb4 rfl
          simp at h1
          exact ⟨i, x.1, by rw [h, ← h1]⟩
      subst hst
      have e1 : nStep 0 5 ((ini ++ [(f, (4 : Int))]).map Prod.snd) false = (0, (ini ++ [(f, (5 : Int))]).map Prod.snd, false) := by
        rw [hn5]
        rw [List.map_append] at hb4
        have h1 := List.append_inj_left' hb4 rfl
        rw [List.map_append, h1]
        rfl
      have e2 : mStep k 5 ((ini ++ [(f, (4 : Int))]).map Prod.fst, E, S) = ((ini ++ [(f, (5 : Int))]).map Prod.fst, E, (S.set k (f : Int)).set f (k : Int)) := by
        unfold mStep
        simp
      rw [e1] at hr ⊢
      rw [e2]
      exact run_inv ops n L (k + 1) _ E _ false (hI.turn hkn (by rw [hop]; exact h5)) (fun h => by cases h) hops' hk' hr
    by_cases h11 : d.op = 11
    · rw [h11] at h0 hr ⊢
      rcases List.eq_nil_or_concat st with h | ⟨ini, x, h⟩
      · subst h
        have e2 : mStep k 11 (([] : List (Nat × Int)).map Prod.fst, E, S) = (([] : List (Nat × Int)).map Prod.fst, E, S) := by
          unfold mStep
          simp
        rw [e2]
        exact run_inv ops n L (k + 1) [] E S true (hI.skip hkn (by rw [hop, h11]; unfold isO; omega)) (fun _ => rfl) hops' hk' hr
      · rw [List.concat_eq_append] at h
        obtain ⟨f, b⟩ := x
        subst h
        have e1 : nStep 0 11 ((ini ++ [(f, b)]).map Prod.snd) false = (0, ini.map Prod.snd, false) := by
          rw [List.map_append]
          exact nStep_11 _ _
        have e2 : mStep k 11 ((ini ++ [(f, b)]).map Prod.fst, E, S) = (ini.map Prod.fst, tieE E S f k, S) := by
          unfold mStep
          simp
        rw [e1] at hr ⊢
        rw [e2]
        exact run_inv ops n L (k + 1) ini _ S false (hI.pop hkn (by rw [hop]; exact h11)) (fun h => by cases h) hops' hk' hr
    · have e1 : nStep 0 d.op (st.map Prod.snd) false = (0, st.map Prod.snd, false) := by
        unfold nStep
        rw [if_neg (by simp), if_neg (by simp), if_neg h2, if_neg h5, if_neg h11]
      have e2 : mStep k d.op (st.map Prod.fst, E, S) = (st.map Prod.fst, E, S) := by
        unfold mStep
        rw [if_neg h2, if_neg h5, if_neg h11]
      rw [e1] at hr ⊢
      rw [e2]
      exact run_inv ops n L (k + 1) st E S false (hI.skip hkn (by rw [hop]; exact h2)) (fun h => by cases h) hops' hk' hr
/-- The instruction at a place of a body. -/
def opAt (L : List InsD) (i : Nat) : Int := (L.map InsD.op).getD i 0
theorem opAt_get (L : List InsD) (i : Nat) (h : i < L.length) : opAt L i = (L[i]).op := by
  unfold opAt
  rw [List.getD_eq_getElem?_getD, List.getElem?_map, List.getElem?_eq_getElem h]
  rfl
theorem nChk_ok (L : List InsD) (h : nChk L = 0) : L.length ≤ 200 ∧ (nRun L [] false).1 = 0 ∧ (nRun L [] false).2.2 = true ∧ 0 < L.length := by
  unfold nChk at h
  split at h
  · cases h
  · split at h
    · rename_i h1 h2
      split at h
      · rename_i h3
        refine ⟨by omega, h2, h3, ?_⟩
        cases L with
        | nil => cases h3
        | cons => simp
      · cases h
    · rename_i h1 h2
      exact absurd h h2
/-- What is matched. -/
def matchOf (L : List InsD) : List Nat × List Int × List Int := mRun 0 L ([], List.replicate L.length (-1), List.replicate L.length (-1))
theorem match_inv (L : List InsD) (h : nChk L = 0) : Inv (opAt L) L.length L.length [] (matchOf L).2.1 (matchOf L).2.2 := by
  obtain ⟨_, h1, h2, _⟩ := nChk_ok L h
  have h0 : Inv (opAt L) L.length 0 [] (List.replicate L.length (-1)) (List.replicate L.length (-1)) := by
    refine ⟨by simp, by simp, by omega, by simp, by simp, fun p hp => by omega, fun p1 p2 _ h2 => by omega, fun p _ hp => ?_⟩
    rw [List.getD_eq_getElem?_getD, List.getElem?_replicate, if_pos hp]
    rfl
  obtain ⟨st', _, _, a, b⟩ := run_inv (opAt L) L.length L 0 [] _ _ false h0 (fun h => by cases h) (fun i hi => by rw [Nat.zero_add]; exact opAt_get L i hi) (by omega) h1
  have := b h2
  subst this
  exact a

end Go.Proofs.YtkceplamaocmmaaDoor
namespace Go.Proofs.YtkceplamaocmmaaDoor
open Go.RowKit

/-- Whether an instruction opens a block. -/
def isOb (x : Int) : Bool := x == 2 || x == 3 || x == 4
theorem isOb_iff (x : Int) : isOb x = true ↔ isO x := by
  unfold isOb isO
  simp [or_assoc]
theorem LD.cellOp {w : World} {o : Option Addr} {L : List InsD} (h : LD w o L) (i : Nat) (hi : i < L.length) : ∃ b f, o = some ⟨b, f, none⟩ ∧ w.cell? ⟨b, f + i * 4, none⟩ = some (.int .u8 (opAt L i)) := by
  rcases h.2 with h0 | ⟨b, f, e, _, hc⟩
  · rw [h0] at hi; simp at hi
  · exact ⟨b, f, e, by rw [opAt_get L i hi]; exact (hc i hi).1⟩
/-- The body that is its own end alone. -/
def endD : InsD := ⟨11, 0, 0, none, 0, 0, []⟩
theorem endD_chk : nChk [endD] = 0 := by decide +kernel
theorem nil_chk : nChk [] = 3 := by decide +kernel
theorem endD_ok (w : World) : endD.ok w := ⟨by decide, by decide, by decide, by decide, by decide, ⟨rfl, Or.inl rfl⟩, fun _ => rfl⟩
/-- The program's own Match, of whatever body. -/
theorem match_any (o : Option Addr) (cap : Nat) (L : List InsD) (w : World) (h : LD w o L) (hT : TabIn w) (ht0 : 0 < w.heap.size) (hc : nChk L = 0) :
    Calls Tryd.prog 50 #[.slice o L.length cap] w fun r w' => ∃ gE gS o2 cap2, r = .returned (.tuple #[.slice (some ⟨gE, 0, none⟩) L.length L.length, .slice (some ⟨gS, 0, none⟩) L.length L.length, .int .i64 0]) ∧ MS w w' gE gS L.length (matchOf L).1 (matchOf L).2.1 (matchOf L).2.2 o2 cap2 := by
  obtain ⟨h1, h2, _, _⟩ := nChk_ok L hc
  have hck := ncheck_any o cap L w h hT ht0
  rw [hc] at hck
  exact match_core o cap L.length L (matchOf L) rfl h1 w h h2 hck rfl
theorem match_bad (o : Option Addr) (cap : Nat) (L : List InsD) (w : World) (h : LD w o L) (hT : TabIn w) (ht0 : 0 < w.heap.size) (hc : nChk L ≠ 0) :
    Calls Tryd.prog 50 #[.slice o L.length cap] w fun r w' => r = .returned (.tuple #[.slice none 0 0, .slice none 0 0, .int .i64 (nChk L)]) ∧ Below w.heap.size w w' :=
  match_err o L.length cap (nChk L) (by rw [beq_eq_false_iff_ne]; exact hc) w (ncheck_any o cap L w h hT ht0)

end Go.Proofs.YtkceplamaocmmaaDoor
