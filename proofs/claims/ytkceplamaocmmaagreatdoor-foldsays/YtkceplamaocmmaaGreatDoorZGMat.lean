/-
 What the small functions of nest.Match do. What the program's own nest.Match does. What belongs together lies within one another, or apart: plain mathematics of a match. What belongs together lies within one another, or apart: of a whole body. The law of pairs: its small functions.
-/
import Derived.Test.YtkceplamaocmmaaGreatDoorZGNst
import Derived.Laws.MakeOwn
set_option maxHeartbeats 16000000
set_option maxRecDepth 1000000
namespace Go.Proofs.YtkceplamaocmmaaGreatDoor
set_option linter.unusedVariables false
open Go.RowKit
theorem Tryz.infoInt : (Tryz.prog.info? 3).map (fun i => (i.zero, i.size, i.bytes)) = some (some (.int .i64 0), 1, 8) := by kernel_rfl
structure MS (w wr : World) (gE gS n : Nat) (op : List Nat) (E S : List Int) (o : Option Addr) (cap : Nat) : Prop where
 ends : wr.ownsRow w.heap.size 3 1 (.slice (some ⟨gE, 0, none⟩) n n) n (E.map (Value.int .i64))
 elses : wr.ownsRow w.heap.size 3 1 (.slice (some ⟨gS, 0, none⟩) n n) n (S.map (Value.int .i64))
 opens : wr.ownsRow w.heap.size 3 1 (.slice o op.length cap) op.length (op.map fun (p : Nat) => Value.int .i64 (p : Int))
 es : gE ≠ gS
 far : ∀ g, o = some g → g.block ≠ gE ∧ g.block ≠ gS
 below : Below w.heap.size w wr
section
variable {w wr w' : World} {gE gS n : Nat} {op : List Nat} {E S : List Int} {o : Option Addr} {cap : Nat}
theorem own3_under {w1 w2 : World} {base k : Nat} {v : Value} {xs : List Value} (h : w1.ownsRow base 3 1 v k xs) (b : Below w1.heap.size w1 w2) : w2.ownsRow base 3 1 v k xs :=
 h.kept (row := none) ⟨b.os, b.tape, b.output, b.size, fun k hk _ => b.block k hk⟩ (by cases hv : v.ownBlock <;> simp)
theorem MS.under (h : MS w wr gE gS n op E S o cap) (b : Below wr.heap.size wr w') : MS w w' gE gS n op E S o cap :=
 ⟨own3_under h.ends b, own3_under h.elses b, own3_under h.opens b, h.es, h.far, h.below.trans (b.mono h.below.size)⟩
theorem MS.drew (h : MS w wr gE gS n op E S o cap) : MS w wr.drew gE gS n op E S o cap := ⟨h.ends, h.elses, h.opens, h.es, h.far, h.below.drew⟩
theorem MS.lenE (h : MS w wr gE gS n op E S o cap) : E.length = n := by have := h.ends.1; simpa using this
theorem MS.lenS (h : MS w wr gE gS n op E S o cap) : S.length = n := by have := h.elses.1; simpa using this
theorem far_block {P k c : Nat} (h : ∀ g, o = some g → g.block ≠ P) : (Value.slice o k c).ownBlock ≠ some P := by
 cases o with
 | none => simp [Value.ownBlock]
 | some g => simpa [Value.ownBlock] using h g rfl
theorem MS.setE (h : MS w wr gE gS n op E S o cap) (j : Nat) (v : Int) : MS w (wr.setCell ⟨gE, j, none⟩ (.int .i64 v)) gE gS n op (E.set j v) S o cap := by
 refine ⟨?_, ?_, ?_, h.es, h.far, h.below.setCell (h.ends.lt gE rfl).1 _⟩
 ·rw [List.map_set]
  exact (h.ends.stored j _).1
 ·exact ownsRow_setCell_other h.elses (by simp [Value.ownBlock]; exact h.es.symm) _
 ·exact ownsRow_setCell_other h.opens (far_block fun g hg => (h.far g hg).1) _
theorem MS.setS (h : MS w wr gE gS n op E S o cap) (j : Nat) (v : Int) : MS w (wr.setCell ⟨gS, j, none⟩ (.int .i64 v)) gE gS n op E (S.set j v) o cap := by
 refine ⟨?_, ?_, ?_, h.es, h.far, h.below.setCell (h.elses.lt gS rfl).1 _⟩
 ·exact ownsRow_setCell_other h.ends (by simp [Value.ownBlock]; exact h.es) _
 ·rw [List.map_set]
  exact (h.elses.stored j _).1
 ·exact ownsRow_setCell_other h.opens (far_block fun g hg => (h.far g hg).2) _
theorem MS.cellE (h : MS w wr gE gS n op E S o cap) (j : Nat) (hj : j < n) : wr.cell? ⟨gE, j, none⟩ = some (.int .i64 (E.getD j 0)) ∧ wr.frozen? ⟨gE, j, none⟩ = false := by
 refine ⟨?_, h.ends.frozenAt j⟩
 rw [h.ends.cellAt j (by omega), List.getElem?_map, List.getElem?_eq_getElem (by rw [h.lenE]; exact hj), List.getD_eq_getElem?_getD, List.getElem?_eq_getElem (by rw [h.lenE]; exact hj)]
 rfl
theorem MS.cellS (h : MS w wr gE gS n op E S o cap) (j : Nat) (hj : j < n) : wr.cell? ⟨gS, j, none⟩ = some (.int .i64 (S.getD j 0)) ∧ wr.frozen? ⟨gS, j, none⟩ = false := by
 refine ⟨?_, h.elses.frozenAt j⟩
 rw [h.elses.cellAt j (by omega), List.getElem?_map, List.getElem?_eq_getElem (by rw [h.lenS]; exact hj), List.getD_eq_getElem?_getD, List.getElem?_eq_getElem (by rw [h.lenS]; exact hj)]
 rfl
theorem MS.lasts {ini : List Nat} {f : Nat} (h : MS w wr gE gS n (ini ++ [f]) E S o cap) : ∃ gO, o = some ⟨gO, 0, none⟩ ∧ wr.cell? ⟨gO, ini.length, none⟩ = some (.int .i64 (f : Int)) ∧ ini.length + 1 ≤ cap ∧ cap ≤ 9223372036854775807 ∧ MS w wr gE gS n ini E S o cap := by
 have ho := h.opens
 have hl : (ini ++ [f]).length = ini.length + 1 := by simp
 rw [hl, List.map_append] at ho
 obtain ⟨g, c, hv, hb, _⟩ := ho.form (by omega)
 simp only [Value.slice.injEq] at hv
 obtain ⟨rfl, _, rfl⟩ := hv
 obtain ⟨c1, c2⟩ := own_cap ho
 refine ⟨g, rfl, ?_, c1, c2, ⟨h.ends, h.elses, ?_, h.es, h.far, h.below⟩⟩
 ·rw [ho.cellAt ini.length (by omega), List.getElem?_append_right (by simp), List.length_map, Nat.sub_self]
  rfl
 ·exact ownsRow_pop (by simp) ho
end
theorem nowhere_any (n : Nat) (hn : n ≤ 200) (w : World) :
  Calls Tryz.prog 94 #[.int .i64 n] w fun r w' => ∃ g, r = .returned (.slice (some ⟨g, 0, none⟩) n n) ∧ w.heap.size ≤ g ∧ g < w'.heap.size ∧ w'.ownsRow w.heap.size 3 1 (.slice (some ⟨g, 0, none⟩) n n) n ((List.replicate n (-1 : Int)).map (Value.int .i64)) ∧ Below w.heap.size w w' := by
 obtain ⟨i0, hi, hz0, hz1, hz2⟩ := info_parts Tryz.infoInt
 go_enter Tryz.func94, Tryz.ntmps94
 go_wp2_with (at_make; refine wpList_make_full _ rfl _ _ 49 rfl w.heap.size 3 i0 (.int .i64 0) 1 Tryz.underlying49 hi hz0 hz1 .i64 .i64 (n : Int) (n : Int) n rfl rfl rfl rfl ?b2 ?b3 (Nat.le_refl _) ?_)
 case b2 => rw [hz2]; omega
 case b3 => unfold maxLen; omega
 intro w2 hown hgrow
 obtain ⟨Z, hlz2, hownZ⟩ : ∃ Z : List Value, Z.length = n ∧ w2.ownsRow w.heap.size 3 1 (.slice (some ⟨w.heap.size, 0, none⟩) n n) n Z := ⟨_, by have := hown.1; simpa using this, hown⟩
 have HB : Hid (Below w.heap.size w w2) := (Below.refl _ _).grown hgrow (Nat.le_refl _) (fun j hj => by cases hj)
 have HLZ : Hid (Z.length = n) := hlz2
 have HOZ : Hid (type_of% hownZ) := hownZ
 clear hown hgrow hlz2 hz2 hownZ
 go_wp2
 go_loopw [9] (fun i wr => ∃ k : Nat, i = .int .i64 k ∧ k ≤ n ∧ Hid (wr.ownsRow w.heap.size 3 1 (.slice (some ⟨w.heap.size, 0, none⟩) n n) n ((List.replicate k (-1 : Int)).map (Value.int .i64) ++ Z.drop k)) ∧ Hid (Below w.heap.size w wr)) (fun i _ => n - (intOf i).toNat)
 case atStart => exact ⟨0, rfl, by omega, by simpa using HOZ, HB⟩
 case round =>
  obtain ⟨k, rfl, hk, HO, HBk⟩ := hrel
  clear HOZ HB
  by_cases hlt : k < n
  ·have hki0 : (0 : Int) ≤ (k : Int) := by omega
   have hki1 : (k : Int) < (n : Int) := by omega
   have hst := (HO.out.stored k (.int .i64 (-1))).1
   have hfz := HO.out.frozenAt k
   have hcell : wr.cell? ⟨w.heap.size, k, none⟩ = some (Z.getD k (.int .i64 0)) := by
    rw [HO.out.cellAt k (by omega), List.getElem?_append_right (by simp), List.length_map, List.length_replicate, Nat.sub_self, List.getElem?_drop, Nat.add_zero, List.getElem?_eq_getElem (by rw [HLZ.out]; exact hlt), List.getD_eq_getElem?_getD, List.getElem?_eq_getElem (by rw [HLZ.out]; exact hlt)]
    rfl
   rw [set_step _ _ _ _ (by simp) (by rw [HLZ.out]; exact hlt)] at hst
   have HST : Hid ((wr.setCell ⟨w.heap.size, k, none⟩ (.int .i64 (-1))).ownsRow w.heap.size 3 1 (.slice (some ⟨w.heap.size, 0, none⟩) n n) n ((List.replicate (k + 1) (-1 : Int)).map (Value.int .i64) ++ Z.drop (k + 1))) := by
    unfold Hid
    rw [List.replicate_succ', List.map_append]
    exact hst
   have HB4 : Hid (Below w.heap.size w (wr.setCell ⟨w.heap.size, k, none⟩ (.int .i64 (-1)))) := HBk.out.setCell (Nat.le_refl _) _
   clear hst HO HBk
   go_wp2
   go_roundw
   case rel => exact ⟨k + 1, by go_num, by omega, HST, HB4⟩
   case measure => simp [intOf]; omega
  ·have hkn : k = n := by omega
   subst hkn
   have HE : Hid (wr.ownsRow w.heap.size 3 1 (.slice (some ⟨w.heap.size, 0, none⟩) k k) k ((List.replicate k (-1 : Int)).map (Value.int .i64))) := by
    have := HO.out
    rw [List.drop_eq_nil_of_le (by rw [HLZ.out]; exact Nat.le_refl _), List.append_nil] at this
    exact this
   clear HO
   go_wp2
   go_ret
   exact ⟨w.heap.size, rfl, Nat.le_refl _, (HE.out.lt _ rfl).2, HE.out, HBk.out⟩
def tieE (E S : List Int) (f t : Nat) : List Int := if S.getD f 0 = -1 then (E.set f (t : Int)).set t (f : Int) else ((E.set f (t : Int)).set t (f : Int)).set (S.getD f 0).toNat (t : Int)
theorem tie_any (w wr : World) (gE gS n : Nat) (op : List Nat) (E S : List Int) (o : Option Addr) (cap f t : Nat) (h : MS w wr gE gS n op E S o cap) (hn : n ≤ 200) (hf : f < n) (ht : t < n) (hS : S.getD f 0 = -1 ∨ (0 ≤ S.getD f 0 ∧ S.getD f 0 < n)) :
  Calls Tryz.prog 95 #[.slice (some ⟨gE, 0, none⟩) n n, .slice (some ⟨gS, 0, none⟩) n n, .int .i64 f, .int .i64 t] wr fun r w' => r = .returned (.tuple #[]) ∧ MS w w' gE gS n op (tieE E S f t) S o cap := by
 have h1 := h.setE f t
 have h2 := h1.setE t f
 obtain ⟨c1, z1⟩ := h.cellE f hf
 obtain ⟨c2, z2⟩ := h1.cellE t ht
 obtain ⟨c3, z3⟩ := h2.cellS f hf
 have H2 : Hid (type_of% h2) := h2
 have hfi0 : (0 : Int) ≤ (f : Int) := by omega
 have hfi1 : (f : Int) < (n : Int) := by omega
 have hti0 : (0 : Int) ≤ (t : Int) := by omega
 have hti1 : (t : Int) < (n : Int) := by omega
 have hni : (n : Int) ≤ 200 := by omega
 have hse := h.es
 unfold tieE
 rcases hS with hS | ⟨s0, s1⟩
 ·rw [if_pos hS]
  rw [hS] at c3
  clear h h1 h2
  go_enter Tryz.func95, Tryz.ntmps95
  go_wp2
  go_end0
  exact ⟨rfl, H2.out⟩
 ·rw [if_neg (by omega)]
  obtain ⟨s, hs⟩ : ∃ s : Nat, S.getD f 0 = (s : Int) := ⟨(S.getD f 0).toNat, by omega⟩
  rw [hs] at c3 s0 s1 ⊢
  rw [Int.toNat_natCast]
  have h3 := h2.setE s t
  obtain ⟨c4, z4⟩ := h2.cellE s (by omega)
  have H3 : Hid (type_of% h3) := h3
  have hne : ((s : Int) == -1) = false := by rw [beq_eq_false_iff_ne]; omega
  have hnn : ((s : Int) != -1) = true := by rw [bne, hne]; rfl
  clear h h1 h2 h3 H2 hs
  go_enter Tryz.func95, Tryz.ntmps95
  go_wp2
  go_end0
  exact ⟨rfl, H3.out⟩
end Go.Proofs.YtkceplamaocmmaaGreatDoor
namespace Go.Proofs.YtkceplamaocmmaaGreatDoor
open Go.RowKit
def mStep (k : Nat) (op : Int) (q : List Nat × List Int × List Int) : List Nat × List Int × List Int :=
 if op = 2 ∨ op = 3 ∨ op = 4 then (q.1 ++ [k], q.2.1, q.2.2)
 else if op = 5 then (match q.1.getLast? with | some f => (q.1, q.2.1, (q.2.2.set k (f : Int)).set f (k : Int)) | none => q)
 else if op = 11 then (match q.1.getLast? with | some f => (q.1.dropLast, tieE q.2.1 q.2.2 f k, q.2.2) | none => q)
 else q
def mRun : Nat → List InsD → List Nat × List Int × List Int → List Nat × List Int × List Int
 | _, [], q => q
 | k, d :: L, q => mRun (k + 1) L (mStep k d.op q)
theorem MS.push {w wa w2 : World} {gE gS n : Nat} {op : List Nat} {E S : List Int} {o : Option Addr} {cap g capg k : Nat} (h : MS w wa gE gS n op E S o cap) (hg : wa.grownBy w2 (Value.slice o op.length cap).ownBlock) (hown : w2.ownsRow w.heap.size 3 1 (.slice (some ⟨g, 0, none⟩) (op.length + 1) capg) (op.length + 1) ((op.map fun (p : Nat) => Value.int .i64 (p : Int)) ++ [.int .i64 (k : Int)])) (hat : (Value.slice o op.length cap).ownBlock = some g ∨ g = wa.heap.size) : MS w w2 gE gS n (op ++ [k]) E S (some ⟨g, 0, none⟩) capg := by
 have fE := far_block (k := op.length) (c := cap) fun g hg => (h.far g hg).1
 have fS := far_block (k := op.length) (c := cap) fun g hg => (h.far g hg).2
 refine ⟨h.ends.kept hg (Or.inr (by simp [Value.ownBlock]; exact fun e => fE e.symm)), h.elses.kept hg (Or.inr (by simp [Value.ownBlock]; exact fun e => fS e.symm)), ?_, h.es, ?_, h.below.grown hg h.below.size fun j hj => (h.opens.lt j hj).1⟩
 ·rw [List.length_append, List.map_append]
  exact hown
 ·intro a ha
  cases ha
  have lE := (h.ends.lt gE rfl).2
  have lS := (h.elses.lt gS rfl).2
  rcases hat with e | e
  ·rw [e] at fE fS
   exact ⟨by simpa using fE, by simpa using fS⟩
  ·simp only
   omega
structure MI (n k : Nat) (op : List Nat) (S : List Int) (bs : List Int) : Prop where
 len : bs.length = op.length
 most : bs.length ≤ 12
 lt : ∀ p ∈ op, p < k
 turn : ∀ j, S.getD j 0 = -1 ∨ (0 ≤ S.getD j 0 ∧ S.getD j 0 < (n : Int)) ∨ n ≤ j
theorem nStep_ok (c op : Int) (bs : List Int) (en : Bool) (h : (nStep c op bs en).1 = 0) : c = 0 ∧ en = false := by
 unfold nStep at h
 split at h
 ·rename_i hc
  exact absurd h hc
 ·rename_i hc
  split at h
  ·cases h
  ·rename_i he
   exact ⟨by omega, by simpa using he⟩
theorem nStep_5 (bs : List Int) (h : (nStep 0 5 bs false).1 = 0) : ∃ ini, bs = ini ++ [4] ∧ nStep 0 5 bs false = (0, ini ++ [5], false) := by
 rcases List.eq_nil_or_concat bs with rfl | ⟨ini, x, rfl⟩
 ·cases h
 ·rw [List.concat_eq_append] at h ⊢
  have e : (ini ++ [x]).getLast? = some x := by simp
  have e2 : nStep 0 5 (ini ++ [x]) false = (match some x with | some 4 => ((0 : Int), (ini ++ [x]).dropLast ++ [5], false) | _ => (4, ini ++ [x], false)) := by
   unfold nStep
   rw [e]
   rfl
  rw [e2] at h ⊢
  by_cases hx : x = 4
  ·subst hx
   exact ⟨ini, rfl, by rw [List.dropLast_concat]; rfl⟩
  ·exfalso
   split at h
   ·rename_i heq
    simp only [Option.some.injEq] at heq
    exact hx heq
   ·cases h
theorem nStep_11 (ini : List Int) (x : Int) : nStep 0 11 (ini ++ [x]) false = (0, ini, false) := by
 unfold nStep
 rw [if_neg (by simp), if_neg (by simp), if_neg (by omega), if_neg (by omega), if_pos rfl, List.dropLast_concat]
 cases ini <;> rfl
theorem getD_set (S : List Int) (i j : Nat) (v : Int) : (S.set i v).getD j 0 = if i = j ∧ j < S.length then v else S.getD j 0 := by
 rw [List.getD_eq_getElem?_getD, List.getElem?_set, List.getD_eq_getElem?_getD]
 by_cases h : i = j
 ·subst h
  by_cases h2 : i < S.length
  ·simp [h2]
  ·simp [h2]
 ·simp [h]
theorem MI.set {n k : Nat} {op : List Nat} {S : List Int} {bs bs2 : List Int} (h : MI n k op S bs) (i : Nat) (v : Nat) (hv : v < n) (hl : bs2.length = bs.length) : MI n k op (S.set i (v : Int)) bs2 := by
 refine ⟨by rw [hl]; exact h.len, by rw [hl]; exact h.most, h.lt, fun j => ?_⟩
 rw [getD_set]
 split
 ·exact Or.inr (Or.inl ⟨by omega, by omega⟩)
 ·exact h.turn j
theorem MI.mono {n k : Nat} {op : List Nat} {S : List Int} {bs : List Int} (h : MI n k op S bs) : MI n (k + 1) op S bs := ⟨h.len, h.most, fun p hp => Nat.lt_succ_of_lt (h.lt p hp), h.turn⟩
theorem match_core (o : Option Addr) (cap n : Nat) (L : List InsD) (Q : List Nat × List Int × List Int) (hl : L.length = n) (hn : n ≤ 200) (w : World) (h : LD w o L) (HRun : Hid ((nRun L [] false).1 = 0))
  (HC : Hid (Calls Tryz.prog 7 #[.slice o n cap] w fun r w' => r = .returned (.int .i64 0) ∧ Below w.heap.size w w')) (HQ0 : Hid (mRun 0 L ([], List.replicate n (-1), List.replicate n (-1)) = Q)) :
  Calls Tryz.prog 80 #[.slice o n cap] w fun r w' => ∃ gE gS o2 cap2, r = .returned (.tuple #[.slice (some ⟨gE, 0, none⟩) n n, .slice (some ⟨gS, 0, none⟩) n n, .int .i64 0]) ∧ MS w w' gE gS n Q.1 Q.2.1 Q.2.2 o2 cap2 := by
 obtain ⟨i0, hi, hz0, hz1, hz2⟩ := info_parts Tryz.infoInt
 have HLn : Hid (L.length = n) := hl
 have HLD : Hid (LD w o L) := h
 have HNW : Hid (∀ w, type_of% (nowhere_any n hn w)) := fun w => nowhere_any n hn w
 clear hl h
 have hni : (n : Int) ≤ 200 := by omega
 go_enter Tryz.func80, Tryz.ntmps80
 go_wp2_with fail
 refine HC.out.mono ?_
 rintro r w1 ⟨rfl, b1⟩
 go_wp2_with fail
 refine (HNW.out _).mono ?_
 rintro r w2 ⟨gE, rfl, gE0, gE1, o2, b2⟩
 go_wp2_with fail
 refine (HNW.out _).mono ?_
 rintro r w3 ⟨gS, rfl, gS0, gS1, o3, b3⟩
 have s1 := b1.size
 have s2 := b2.size
 have s3 := b3.size
 have HM0 : Hid (MS w w3 gE gS n [] (List.replicate n (-1)) (List.replicate n (-1)) none 0) :=
  ⟨ownsRow_down (own3_under o2 b3) s1, ownsRow_down o3 (by omega), World.ownsRow_nil _ _ _ _, by omega, by simp, (b1.trans (b2.mono s1)).trans (b3.mono (by omega))⟩
 have HI0 : Hid (MI n 0 [] (List.replicate n (-1)) []) := ⟨rfl, by simp, by simp, fun j => by
  by_cases hj : j < n
  ·left
   rw [List.getD_eq_getElem?_getD, List.getElem?_replicate, if_pos hj]
   rfl
  ·exact Or.inr (Or.inr (by omega))⟩
 clear b1 b2 b3 o2 o3 gE0 gE1 gS0 gS1 s1 s2 s3 HNW HC
 go_wp2
 go_loopw [8, 25] (fun v i wr => ∃ k : Nat, ∃ op : List Nat, ∃ E S bs : List Int, ∃ en : Bool, ∃ o2 : Option Addr, ∃ cap2 : Nat, v = .slice o2 op.length cap2 ∧ i = .int .i64 k ∧ k ≤ n ∧ Hid (MS w wr gE gS n op E S o2 cap2) ∧ Hid (MI n k op S bs) ∧ Hid ((nRun (L.drop k) bs en).1 = 0) ∧ Hid (mRun k (L.drop k) (op, E, S) = Q)) (fun _ i _ => n - (intOf i).toNat)
 case atStart => exact ⟨0, [], _, _, [], false, none, 0, rfl, rfl, by omega, HM0, HI0, HRun, HQ0⟩
 case round =>
  obtain ⟨k, op, E, S, bs, en, o2, cap2, rfl, rfl, hk, HM, HI, HR, HQ⟩ := hrel
  clear HM0 HI0 HRun HQ0
  by_cases hlt : k < n
  ·have hkl : k < L.length := by rw [HLn.out]; exact hlt
   have hdr : L.drop k = L[k] :: L.drop (k + 1) := List.drop_eq_getElem_cons hkl
   rcases HLD.out.2 with h0 | ⟨b, f, rfl, hbw, hc⟩
   ·exfalso; rw [h0] at hkl; simp at hkl
   obtain ⟨m0, m1, m2, m3⟩ := hc k hkl
   have HR1 := HR.out
   rw [hdr, nRun] at HR1
   have HQ1 := HQ.out
   rw [hdr, mRun] at HQ1
   have e0 := HM.out.below.cell (p := ⟨b, f + k * 4, none⟩) hbw
   have e1 := HM.out.below.cell (p := ⟨b, f + k * 4 + 1, none⟩) hbw
   have e2 := HM.out.below.cell (p := ⟨b, f + k * 4 + 2, none⟩) hbw
   have e3 := HM.out.below.cell (p := ⟨b, f + k * 4 + 3, none⟩) hbw
   rw [m0] at e0
   rw [m1] at e1
   rw [m2] at e2
   rw [m3] at e3
   generalize L[k] = d at e0 e1 e2 e3 HR1 HQ1
   clear hc m0 m1 m2 m3 hdr HR HQ
   have hok : (nStep (chkD d) d.op bs en).1 = 0 := by
    by_cases h0 : (nStep (chkD d) d.op bs en).1 = 0
    ·exact h0
    ·rw [if_neg h0] at HR1
     exact HR1
   rw [if_pos hok] at HR1
   obtain ⟨hchk, hen⟩ := nStep_ok _ _ _ _ hok
   rw [hchk, hen] at hok HR1
   obtain ⟨opd, hopd⟩ : ∃ x, d.op = x := ⟨_, rfl⟩
   rw [hopd] at e0 hok HR1 HQ1
   have HR2 : Hid (type_of% HR1) := HR1
   have HQ2 : Hid (type_of% HQ1) := HQ1
   have HOK : Hid ((nStep 0 opd bs false).1 = 0) := hok
   clear HR1 HQ1 hchk hen hopd hok
   have hki0 : (0 : Int) ≤ (k : Int) := by omega
   have hki1 : (k : Int) < (n : Int) := by omega
   obtain ⟨hcp, hcm⟩ := own_cap HM.out.opens
   have hmo := HI.out.most
   have hle := HI.out.len
   have hopl : (op.length : Int) ≤ 12 := by omega
   by_cases h2 : opd = 2 ∨ opd = 3 ∨ opd = 4
   ·have HQ3 : Hid (mRun (k + 1) (L.drop (k + 1)) (op ++ [k], E, S) = Q) := by
     have := HQ2.out
     rw [mStep, if_pos h2] at this
     exact this
    have hl12 : bs.length ≠ 12 := by
     intro e
     have := HOK.out
     unfold nStep at this
     rw [if_neg (by simp), if_neg (by simp), if_pos h2, if_pos e] at this
     cases this
    have HR3 : Hid ((nRun (L.drop (k + 1)) (bs ++ [opd]) false).1 = 0) := by
     have := HR2.out
     unfold nStep at this
     rw [if_neg (by simp), if_neg (by simp), if_pos h2, if_neg hl12] at this
     exact this
    have HI3 : Hid (MI n (k + 1) (op ++ [k]) S (bs ++ [opd])) := ⟨by simp [HI.out.len], by simp; omega, fun p hp => by
     rcases List.mem_append.1 hp with h | h
     ·exact Nat.lt_succ_of_lt (HI.out.lt p h)
     ·simp at h; omega, HI.out.turn⟩
    clear HQ2 HR2 HOK HI
    have h62 : op.length + 1 ≤ 13 := by omega
    rcases h2 with rfl | rfl | rfl
    ·have hMa := HM.out.under ((Below.refl wr.heap.size wr).alloc (Nat.le_refl _) (.cells #[.int .u8 2, .int .i64 d.A, .int .i64 d.B, .slice d.o d.n d.cap] 34))
     have HMb : Hid (type_of% (hMa.under ((Below.refl _ _).alloc (Nat.le_refl _) (.cells #[.int .i64 (k : Int)] 3)))) := hMa.under ((Below.refl _ _).alloc (Nat.le_refl _) (.cells #[.int .i64 (k : Int)] 3))
     have HNB : Hid (((wr.alloc (.cells #[.int .u8 2, .int .i64 d.A, .int .i64 d.B, .slice d.o d.n d.cap] 34)).alloc (.cells #[.int .i64 (k : Int)] 3)).heap[wr.heap.size + 1]? = some (.cells #[.int .i64 (k : Int)] 3 (0, 0))) := by
      have := heap_alloc_new (wr.alloc (.cells #[.int .u8 2, .int .i64 d.A, .int .i64 d.B, .slice d.o d.n d.cap] 34)) (.cells #[.int .i64 (k : Int)] 3)
      rw [World.size_alloc] at this
      exact this
     clear hMa
     go_wp2_with (at_builtin; refine wpList_append_lies _ rfl _ _ 49 rfl w.heap.size 3 i0 (.int .i64 0) 1 8 Tryz.underlying49 hi hz0 hz1 hz2 rfl (by omega) _ op.length (op.map fun (p : Nat) => Value.int .i64 (p : Int)) rfl HMb.out.opens ⟨wr.heap.size + 1, 0, none⟩ 1 1 [.int .i64 (k : Int)] rfl rfl (World.news_of_block (cs := #[.int .i64 (k : Int)]) (t := 3) (fr := (0, 0)) HNB.out) (by simp [Value.oneCell']) (by omega) (by unfold maxLen; omega) (by omega) HMb.out.below.size _ rfl ?_)
     intro g capg w5 hown hgrow hat hlt5
     have HM5 : Hid (MS w w5 gE gS n (op ++ [k]) E S (some ⟨g, 0, none⟩) capg) := HMb.out.push hgrow hown (by rw [World.size_alloc, World.size_alloc]; exact hat)
     clear hown hgrow hat hlt5 HMb HM
     go_wp2
     go_roundw
     case rel => exact ⟨k + 1, op ++ [k], E, S, bs ++ [2], false, _, capg, by simp, by go_num, by omega, HM5, HI3, HR3, HQ3⟩
     case measure => simp [intOf]; omega
    ·have hMa := HM.out.under ((Below.refl wr.heap.size wr).alloc (Nat.le_refl _) (.cells #[.int .u8 3, .int .i64 d.A, .int .i64 d.B, .slice d.o d.n d.cap] 34))
     have HMb : Hid (type_of% (hMa.under ((Below.refl _ _).alloc (Nat.le_refl _) (.cells #[.int .i64 (k : Int)] 3)))) := hMa.under ((Below.refl _ _).alloc (Nat.le_refl _) (.cells #[.int .i64 (k : Int)] 3))
     have HNB : Hid (((wr.alloc (.cells #[.int .u8 3, .int .i64 d.A, .int .i64 d.B, .slice d.o d.n d.cap] 34)).alloc (.cells #[.int .i64 (k : Int)] 3)).heap[wr.heap.size + 1]? = some (.cells #[.int .i64 (k : Int)] 3 (0, 0))) := by
      have := heap_alloc_new (wr.alloc (.cells #[.int .u8 3, .int .i64 d.A, .int .i64 d.B, .slice d.o d.n d.cap] 34)) (.cells #[.int .i64 (k : Int)] 3)
      rw [World.size_alloc] at this
      exact this
     clear hMa
     go_wp2_with (at_builtin; refine wpList_append_lies _ rfl _ _ 49 rfl w.heap.size 3 i0 (.int .i64 0) 1 8 Tryz.underlying49 hi hz0 hz1 hz2 rfl (by omega) _ op.length (op.map fun (p : Nat) => Value.int .i64 (p : Int)) rfl HMb.out.opens ⟨wr.heap.size + 1, 0, none⟩ 1 1 [.int .i64 (k : Int)] rfl rfl (World.news_of_block (cs := #[.int .i64 (k : Int)]) (t := 3) (fr := (0, 0)) HNB.out) (by simp [Value.oneCell']) (by omega) (by unfold maxLen; omega) (by omega) HMb.out.below.size _ rfl ?_)
     intro g capg w5 hown hgrow hat hlt5
     have HM5 : Hid (MS w w5 gE gS n (op ++ [k]) E S (some ⟨g, 0, none⟩) capg) := HMb.out.push hgrow hown (by rw [World.size_alloc, World.size_alloc]; exact hat)
     clear hown hgrow hat hlt5 HMb HM
     go_wp2
     go_roundw
     case rel => exact ⟨k + 1, op ++ [k], E, S, bs ++ [3], false, _, capg, by simp, by go_num, by omega, HM5, HI3, HR3, HQ3⟩
     case measure => simp [intOf]; omega
    ·have hMa := HM.out.under ((Below.refl wr.heap.size wr).alloc (Nat.le_refl _) (.cells #[.int .u8 4, .int .i64 d.A, .int .i64 d.B, .slice d.o d.n d.cap] 34))
     have HMb : Hid (type_of% (hMa.under ((Below.refl _ _).alloc (Nat.le_refl _) (.cells #[.int .i64 (k : Int)] 3)))) := hMa.under ((Below.refl _ _).alloc (Nat.le_refl _) (.cells #[.int .i64 (k : Int)] 3))
     have HNB : Hid (((wr.alloc (.cells #[.int .u8 4, .int .i64 d.A, .int .i64 d.B, .slice d.o d.n d.cap] 34)).alloc (.cells #[.int .i64 (k : Int)] 3)).heap[wr.heap.size + 1]? = some (.cells #[.int .i64 (k : Int)] 3 (0, 0))) := by
      have := heap_alloc_new (wr.alloc (.cells #[.int .u8 4, .int .i64 d.A, .int .i64 d.B, .slice d.o d.n d.cap] 34)) (.cells #[.int .i64 (k : Int)] 3)
      rw [World.size_alloc] at this
      exact this
     clear hMa
     go_wp2_with (at_builtin; refine wpList_append_lies _ rfl _ _ 49 rfl w.heap.size 3 i0 (.int .i64 0) 1 8 Tryz.underlying49 hi hz0 hz1 hz2 rfl (by omega) _ op.length (op.map fun (p : Nat) => Value.int .i64 (p : Int)) rfl HMb.out.opens ⟨wr.heap.size + 1, 0, none⟩ 1 1 [.int .i64 (k : Int)] rfl rfl (World.news_of_block (cs := #[.int .i64 (k : Int)]) (t := 3) (fr := (0, 0)) HNB.out) (by simp [Value.oneCell']) (by omega) (by unfold maxLen; omega) (by omega) HMb.out.below.size _ rfl ?_)
     intro g capg w5 hown hgrow hat hlt5
     have HM5 : Hid (MS w w5 gE gS n (op ++ [k]) E S (some ⟨g, 0, none⟩) capg) := HMb.out.push hgrow hown (by rw [World.size_alloc, World.size_alloc]; exact hat)
     clear hown hgrow hat hlt5 HMb HM
     go_wp2
     go_roundw
     case rel => exact ⟨k + 1, op ++ [k], E, S, bs ++ [4], false, _, capg, by simp, by go_num, by omega, HM5, HI3, HR3, HQ3⟩
     case measure => simp [intOf]; omega
   by_cases h5 : opd = 5
   ·subst h5
    obtain ⟨ini4, hb4, hn5⟩ := nStep_5 bs HOK.out
    have hopne : op ≠ [] := by
     intro e
     have := HI.out.len
     rw [e, hb4] at this
     simp at this
    obtain ⟨ini, fp, hop⟩ : ∃ ini fp, op = ini ++ [fp] := by
     rcases List.eq_nil_or_concat op with h | ⟨i, x, h⟩
     ·exact absurd h hopne
     ·exact ⟨i, x, by rw [h, List.concat_eq_append]⟩
    subst hop
    have hfk : fp < k := HI.out.lt fp (by simp)
    have HQ3 : Hid (mRun (k + 1) (L.drop (k + 1)) (ini ++ [fp], E, (S.set k (fp : Int)).set fp (k : Int)) = Q) := by
     have := HQ2.out
     rw [mStep, if_neg h2, if_pos rfl] at this
     unfold Hid
     simpa using this
    have HR3 : Hid ((nRun (L.drop (k + 1)) (ini4 ++ [5]) false).1 = 0) := by
     have := HR2.out
     rw [hn5] at this
     exact this
    have HI3 : Hid (MI n (k + 1) (ini ++ [fp]) ((S.set k (fp : Int)).set fp (k : Int)) (ini4 ++ [5])) := ((HI.out.mono.set k fp (by omega) (by rw [hb4]; simp)).set fp k (by omega) rfl)
    have hMa := HM.out.under ((Below.refl wr.heap.size wr).alloc (Nat.le_refl _) (.cells #[.int .u8 5, .int .i64 d.A, .int .i64 d.B, .slice d.o d.n d.cap] 34))
    obtain ⟨gO, rfl, cO, _, _, _⟩ := hMa.lasts
    have hb1 := hMa.setS k fp
    have hb2 := hb1.setS fp k
    obtain ⟨cS1, zS1⟩ := hMa.cellS k hlt
    obtain ⟨cS2, zS2⟩ := hb1.cellS fp (by omega)
    have hgO : gO ≠ gS := (hMa.far _ rfl).2
    have hS2 : (wr.alloc (.cells #[.int .u8 5, .int .i64 d.A, .int .i64 d.B, .slice d.o d.n d.cap] 34)).cell? ⟨gS, fp, none⟩ = some (.int .i64 (S.getD fp 0)) := (hMa.cellS fp (by omega)).1
    have zS3 := (hMa.cellS fp (by omega)).2
    have HM2 : Hid (type_of% hb2) := hb2
    clear HQ2 HR2 HOK HI hb1 hb2 hMa
    have hll : ((ini ++ [fp]).length : Int) = (ini.length : Int) + 1 := by simp
    have hlln : (ini ++ [fp]).length = ini.length + 1 := by simp
    rw [hlln] at hopl hcp ⊢
    have hfi0 : (0 : Int) ≤ (fp : Int) := by omega
    have hfi1 : (fp : Int) < (n : Int) := by omega
    have hii0 : (0 : Int) ≤ (ini.length : Int) := by omega
    go_wp2
    go_region
    all_goals
     go_wp2
     go_roundw
     case rel => exact ⟨k + 1, ini ++ [fp], E, _, ini4 ++ [5], false, _, cap2, by rw [hlln], by go_num, by omega, HM2.out.drew, HI3, HR3, HQ3⟩
     case measure => simp [intOf]; omega
   by_cases h11 : opd = 11
   ·subst h11
    rcases List.eq_nil_or_concat op with hop | ⟨ini, fp, hop⟩
    ·subst hop
     have hbs0 : bs = [] := List.length_eq_zero_iff.1 (by rw [HI.out.len]; rfl)
     have HQ3 : Hid (mRun (k + 1) (L.drop (k + 1)) ([], E, S) = Q) := by
      have := HQ2.out
      rw [mStep, if_neg h2, if_neg h5, if_pos rfl] at this
      exact this
     have HR3 : Hid ((nRun (L.drop (k + 1)) [] true).1 = 0) := by
      have := HR2.out
      rw [hbs0] at this
      exact this
     have HI3 : Hid (MI n (k + 1) [] S []) := by
      have := HI.out.mono
      rw [hbs0] at this
      exact this
     have HM2 : Hid (type_of% (HM.out.under ((Below.refl wr.heap.size wr).alloc (Nat.le_refl _) (.cells #[.int .u8 11, .int .i64 d.A, .int .i64 d.B, .slice d.o d.n d.cap] 34)))) := HM.out.under ((Below.refl wr.heap.size wr).alloc (Nat.le_refl _) (.cells #[.int .u8 11, .int .i64 d.A, .int .i64 d.B, .slice d.o d.n d.cap] 34))
     clear HQ2 HR2 HOK HI
     rw [List.length_nil]
     go_wp2
     go_roundw
     case rel => exact ⟨k + 1, [], E, S, [], true, o2, cap2, rfl, by go_num, by omega, HM2, HI3, HR3, HQ3⟩
     case measure => simp [intOf]; omega
    ·rw [List.concat_eq_append] at hop
     subst hop
     have hbne : bs ≠ [] := by
      intro e
      have := HI.out.len
      rw [e] at this
      simp at this
     obtain ⟨inib, xb, hb⟩ : ∃ ini fp, bs = ini ++ [fp] := by
      rcases List.eq_nil_or_concat bs with h | ⟨i, x, h⟩
      ·exact absurd h hbne
      ·exact ⟨i, x, by rw [h, List.concat_eq_append]⟩
     subst hb
     have hfk : fp < k := HI.out.lt fp (by simp)
     have HQ3 : Hid (mRun (k + 1) (L.drop (k + 1)) (ini, tieE E S fp k, S) = Q) := by
      have := HQ2.out
      rw [mStep, if_neg h2, if_neg h5, if_pos rfl] at this
      unfold Hid
      simpa using this
     have HR3 : Hid ((nRun (L.drop (k + 1)) inib false).1 = 0) := by
      have := HR2.out
      rw [nStep_11] at this
      exact this
     have HI3 : Hid (MI n (k + 1) ini S inib) := by
      have hh := HI.out
      have h1 := hh.len
      have h3 := hh.most
      simp at h1 h3
      exact ⟨h1, by omega, fun p hp => Nat.lt_succ_of_lt (hh.lt p (by simp [hp])), hh.turn⟩
     have hMa := HM.out.under ((Below.refl wr.heap.size wr).alloc (Nat.le_refl _) (.cells #[.int .u8 11, .int .i64 d.A, .int .i64 d.B, .slice d.o d.n d.cap] 34))
     obtain ⟨gO, rfl, cO, hc1, hc2, hpop⟩ := hMa.lasts
     have hturn : S.getD fp 0 = -1 ∨ (0 ≤ S.getD fp 0 ∧ S.getD fp 0 < (n : Int)) := by
      rcases HI.out.turn fp with h | h | h
      ·exact Or.inl h
      ·exact Or.inr h
      ·omega
     have HT : Hid (type_of% (tie_any w _ gE gS n ini E S _ cap2 fp k hpop hn (by omega) hlt hturn)) := tie_any w _ gE gS n ini E S _ cap2 fp k hpop hn (by omega) hlt hturn
     clear HQ2 HR2 HOK HI hMa hpop hturn
     have hlln : (ini ++ [fp]).length = ini.length + 1 := by simp
     rw [hlln] at hopl hcp ⊢
     have hii0 : (0 : Int) ≤ (ini.length : Int) := by omega
     have hic : (ini.length : Int) ≤ (cap2 : Int) := by omega
     have hnlt : ¬ ((ini.length : Int) < 0) := by omega
     go_wp2_with fail
     refine HT.out.mono ?_
     rintro r w5 ⟨rfl, m5⟩
     have HM5 : Hid (type_of% m5) := m5
     clear m5 HT cO
     go_wp2
     go_roundw
     case rel => exact ⟨k + 1, ini, _, S, inib, false, _, cap2, by go_num, by go_num, by omega, HM5, HI3, HR3, HQ3⟩
     case measure => simp [intOf]; omega
   have HQ3 : Hid (mRun (k + 1) (L.drop (k + 1)) (op, E, S) = Q) := by
    have := HQ2.out
    rw [mStep, if_neg h2, if_neg h5, if_neg h11] at this
    exact this
   have HR3 : Hid ((nRun (L.drop (k + 1)) bs false).1 = 0) := by
    have := HR2.out
    unfold nStep at this
    rw [if_neg (by simp), if_neg (by simp), if_neg h2, if_neg h5, if_neg h11] at this
    exact this
   have HI3 : Hid (MI n (k + 1) op S bs) := HI.out.mono
   have ne : ∀ j : Int, opd ≠ j → (opd == j) = false := fun j hj => by rw [beq_eq_false_iff_ne]; exact hj
   have q2 := ne 2 (fun e => h2 (Or.inl e))
   have q3 := ne 3 (fun e => h2 (Or.inr (Or.inl e)))
   have q4 := ne 4 (fun e => h2 (Or.inr (Or.inr e)))
   have q5 := ne 5 h5
   have q11 := ne 11 h11
   have HM2 : Hid (type_of% (HM.out.under ((Below.refl wr.heap.size wr).alloc (Nat.le_refl _) (.cells #[.int .u8 opd, .int .i64 d.A, .int .i64 d.B, .slice d.o d.n d.cap] 34)))) := HM.out.under ((Below.refl wr.heap.size wr).alloc (Nat.le_refl _) (.cells #[.int .u8 opd, .int .i64 d.A, .int .i64 d.B, .slice d.o d.n d.cap] 34))
   clear HQ2 HR2 HOK HI h2 h5 h11
   go_wp2
   go_roundw
   case rel => exact ⟨k + 1, op, E, S, bs, false, o2, cap2, rfl, by go_num, by omega, HM2, HI3, HR3, HQ3⟩
   case measure => simp [intOf]; omega
  ·have HE : Hid ((op, E, S) = Q) := by
    have := HQ.out
    rw [List.drop_eq_nil_of_le (by rw [HLn.out]; omega), mRun] at this
    exact this
   have HMF : Hid (MS w wr gE gS n Q.1 Q.2.1 Q.2.2 o2 cap2) := by
    unfold Hid
    rw [← HE.out]
    exact HM.out
   clear HM HE HQ HR HI
   go_wp2
   go_ret3
   exact ⟨gE, gS, o2, cap2, rfl, HMF.out⟩
end Go.Proofs.YtkceplamaocmmaaGreatDoor
namespace Go.Proofs.YtkceplamaocmmaaGreatDoor
def isO (x : Int) : Prop := x = 2 ∨ x = 3 ∨ x = 4
section
variable {ops : Nat → Int} {n k : Nat} {st ini : List (Nat × Int)} {E S : List Int}
end
end Go.Proofs.YtkceplamaocmmaaGreatDoor
namespace Go.Proofs.YtkceplamaocmmaaGreatDoor
def opAt (L : List InsD) (i : Nat) : Int := (L.map InsD.op).getD i 0
theorem opAt_get (L : List InsD) (i : Nat) (h : i < L.length) : opAt L i = (L[i]).op := by
 unfold opAt
 rw [List.getD_eq_getElem?_getD, List.getElem?_map, List.getElem?_eq_getElem h]
 rfl
theorem nChk_ok (L : List InsD) (h : nChk L = 0) : L.length ≤ 200 ∧ (nRun L [] false).1 = 0 ∧ (nRun L [] false).2.2 = true ∧ 0 < L.length := by
 unfold nChk at h
 split at h
 ·cases h
 ·split at h
  ·rename_i h1 h2
   split at h
   ·rename_i h3
    refine ⟨by omega, h2, h3, ?_⟩
    cases L with
    | nil => cases h3
    | cons => simp
   ·cases h
  ·rename_i h1 h2
   exact absurd h h2
def matchOf (L : List InsD) : List Nat × List Int × List Int := mRun 0 L ([], List.replicate L.length (-1), List.replicate L.length (-1))
end Go.Proofs.YtkceplamaocmmaaGreatDoor
namespace Go.Proofs.YtkceplamaocmmaaGreatDoor
open Go.RowKit
theorem LD.cellOp {w : World} {o : Option Addr} {L : List InsD} (h : LD w o L) (i : Nat) (hi : i < L.length) : ∃ b f, o = some ⟨b, f, none⟩ ∧ w.cell? ⟨b, f + i * 4, none⟩ = some (.int .u8 (opAt L i)) := by
 rcases h.2 with h0 | ⟨b, f, e, _, hc⟩
 ·rw [h0] at hi; simp at hi
 ·exact ⟨b, f, e, by rw [opAt_get L i hi]; exact (hc i hi).1⟩
theorem match_any (o : Option Addr) (cap : Nat) (L : List InsD) (w : World) (h : LD w o L) (hT : TabIn w) (ht0 : 0 < w.heap.size) (hc : nChk L = 0) :
  Calls Tryz.prog 80 #[.slice o L.length cap] w fun r w' => ∃ gE gS o2 cap2, r = .returned (.tuple #[.slice (some ⟨gE, 0, none⟩) L.length L.length, .slice (some ⟨gS, 0, none⟩) L.length L.length, .int .i64 0]) ∧ MS w w' gE gS L.length (matchOf L).1 (matchOf L).2.1 (matchOf L).2.2 o2 cap2 := by
 obtain ⟨h1, h2, _, _⟩ := nChk_ok L hc
 have hck := ncheck_any o cap L w h hT ht0
 rw [hc] at hck
 exact match_core o cap L.length L (matchOf L) rfl h1 w h h2 hck rfl
end Go.Proofs.YtkceplamaocmmaaGreatDoor
