/-
  The writer of texts: a strings.Builder within a record.
-/
import Derived.Test.YtfmmefmpjejioaaNBld
import Derived.Test.YtfmmefmpjejioaaSM1
import Derived.Test.YtfmmefmpjejioaaSX
namespace Go.Proofs.Ytfmmefmpjejioaa
open Go.RowKit

/-- Numbers as bytes. -/
def bsK (L : List Int) : List UInt8 := L.map fun n => UInt8.ofNat n.toNat
theorem bsK_len (L : List Int) : (bsK L).length = L.length := by unfold bsK; rw [List.length_map]
theorem bsK_app (L M : List Int) : bsK (L ++ M) = bsK L ++ bsK M := by unfold bsK; rw [List.map_append]
theorem bsK_nums (s : ByteArray) : bsK (nums s) = s.data.toList := by
  unfold bsK nums
  rw [List.map_map]
  conv => rhs; rw [← List.map_id s.data.toList]
  apply List.map_congr_left
  intro b _
  simp
/-- The writer at b: its bytes lie from B on; the first error. -/
def WW (w : World) (B b : Nat) (L : List Int) (e : Int) : Prop := B ≤ b ∧ ∃ p v, (p = .pointer none ∨ p = .pointer (some ⟨b, 0, none⟩)) ∧ w.heap[b]? = some (.cells #[p, v, .int .i64 e] 65 (0, 0)) ∧ w.ownsRow B 5 1 v L.length (Lib.byteCells (bsK L)) ∧ v.ownBlock ≠ some b
theorem WW.lt {w : World} {B b : Nat} {L : List Int} {e : Int} (h : WW w B b L e) : b < w.heap.size := by
  obtain ⟨_, p, v, _, hb, _⟩ := h
  exact some_lt hb
theorem WW.c2 {w : World} {B b : Nat} {L : List Int} {e : Int} (h : WW w B b L e) : w.cell? ⟨b, 2, none⟩ = some (.int .i64 e) := by
  obtain ⟨_, p, v, _, hb, _⟩ := h
  simp [World.cell?, hb]
theorem WW.f2 {w : World} {B b : Nat} {L : List Int} {e : Int} (h : WW w B b L e) (i : Nat) : w.frozen? ⟨b, i, none⟩ = false := by
  obtain ⟨_, p, v, _, hb, _⟩ := h
  simp [World.frozen?, hb]
theorem WW.new (w : World) : WW (w.alloc (.cells #[.pointer none, .slice none 0 0, .int .i64 0] 65)) w.heap.size w.heap.size [] 0 :=
  ⟨Nat.le_refl _, .pointer none, .slice none 0 0, Or.inl rfl, heap_alloc_new w _, World.ownsRow_nil _ _ _ _, by simp [Value.ownBlock]⟩
theorem own_setK {w : World} {B b i n : Nat} {e : TypeId} {v x : Value} {xs : List Value} (h : w.ownsRow B e 1 v n xs) (hv : v.ownBlock ≠ some b) : (w.setCell ⟨b, i, none⟩ x).ownsRow B e 1 v n xs := by
  refine ⟨h.1, ?_⟩
  rcases h.2 with hn | ⟨g, c, cur, hg, hb, hh, rest⟩
  · exact Or.inl hn
  · refine Or.inr ⟨g, c, cur, hg, hb, ?_, rest⟩
    have hne : g ≠ b := by
      intro e
      rw [hg, e] at hv
      exact hv rfl
    have := (Chg.set b i w x).block g (some_lt hh) hne
    rw [this]
    exact hh
theorem WW.set2 {w : World} {B b : Nat} {L : List Int} {e : Int} (h : WW w B b L e) (d : Int) : WW (w.setCell ⟨b, 2, none⟩ (.int .i64 d)) B b L d := by
  obtain ⟨h1, p, v, hp, hb, ho, hv⟩ := h
  refine ⟨h1, p, v, hp, ?_, own_setK ho hv, hv⟩
  simp [World.setCell, Array.getElem?_modify, hb]
theorem WW.below {w w' : World} {B b : Nat} {L : List Int} {e : Int} (h : WW w B b L e) (q : Below w.heap.size w w') : WW w' B b L e := by
  have hlt := h.lt
  obtain ⟨h1, p, v, hp, hb, ho, hv⟩ := h
  exact ⟨h1, p, v, hp, by rw [q.block b hlt]; exact hb, ho.kept (row := none) ⟨q.os, q.tape, q.output, q.size, fun k hk _ => q.block k hk⟩ (by cases hv : v.ownBlock <;> simp), hv⟩
/-- Blocks that are neither writers nor rows of bytes. -/
def notW (t : TypeId) : Bool := t != 65 && t != 5
/-- What a writer's method turns: nothing below B, and of the rest only writers and rows of bytes. -/
structure BK (B : Nat) (w w' : World) : Prop where
  b : Below B w w'
  k : Kp notW w w'
theorem BK.refl (B : Nat) (w : World) : BK B w w := ⟨Below.refl B w, Kp.refl _ w⟩
theorem BK.trans {B : Nat} {x y z : World} (h : BK B x y) (k : BK B y z) : BK B x z := ⟨h.b.trans k.b, h.k.trans k.k⟩
theorem BK.size {B : Nat} {w w' : World} (h : BK B w w') : w.heap.size ≤ w'.heap.size := h.b.size
theorem BK.new {B : Nat} {w w' : World} (h : Below w.heap.size w w') (hB : B ≤ w.heap.size) : BK B w w' := ⟨h.mono hB, Kp.below _ h⟩
theorem BK.set {B b : Nat} {w : World} {cs : Array Value} {f : Nat × Nat} (hb : w.heap[b]? = some (.cells cs 65 f)) (hB : B ≤ b) (i : Nat) (v : Value) : BK B w (w.setCell ⟨b, i, none⟩ v) := ⟨(Below.refl B w).setCell (p := ⟨b, i, none⟩) hB _, Kp.chg hb (Chg.set b i w v) _ (by decide)⟩
theorem WW.set {w : World} {B b : Nat} {L : List Int} {e : Int} (h : WW w B b L e) (i : Nat) (v : Value) : BK B w (w.setCell ⟨b, i, none⟩ v) := by
  obtain ⟨h1, p, x, _, hb, _⟩ := h
  exact BK.set hb h1 i v
theorem Lies.writer : liesAt Try.prog Try.prog.depth 65 (3 / Try.prog.cellsOf 65) 0 63 1 = true := by kernel_rfl
set_option maxHeartbeats 2000000 in
set_option maxRecDepth 1000000 in
theorem wcopy_used (b : Nat) (w : World) (h0 : w.cell? ⟨b, 0, none⟩ = some (.pointer (some ⟨b, 0, none⟩))) :
    Calls Try.prog 79 #[.pointer (some ⟨b, 0, none⟩)] w fun e w' => e = .returned (.tuple #[]) ∧ w' = w := bcopy_used b w h0
set_option maxHeartbeats 2000000 in
set_option maxRecDepth 1000000 in
theorem wcopy_fresh (b : Nat) (w : World) (h0 : w.cell? ⟨b, 0, none⟩ = some (.pointer none)) (hsh : w.shape? b = some (65, 3)) (hfz : w.frozen? ⟨b, 0, none⟩ = false) :
    Calls Try.prog 79 #[.pointer (some ⟨b, 0, none⟩)] w fun e w' => e = .returned (.tuple #[]) ∧ w' = w.setCell ⟨b, 0, none⟩ (.pointer (some ⟨b, 0, none⟩)) := by
  obtain ⟨j, hj, hjs⟩ := Option.map_eq_some_iff.1 stExtra.sizeBuilder
  go_enter Try.func79, Try.ntmps79
  go_wp2
  rw [Lib.run_to_unsafe w ⟨b, 0, none⟩ Try.underlying60 Try.underlying113 hj (by rw [hjs]; decide) hsh (Nat.zero_lt_succ 2)]
  simp only [Result.andThen]
  rw [Oper.upon_value]
  go_wp2
  rw [run_callFunc_extern Try.func80 (by kernel_rfl) (by kernel_rfl) (by kernel_rfl) (e := Extern.AbiNoEscape.same) (by kernel_rfl)]
  rw [Lib.run_noEscape]
  simp only [Result.andThen]
  rw [Oper.upon_value]
  go_wp2
  rw [Lib.run_from_unsafe w ⟨b, 0, none⟩ Try.underlying113 Try.underlying60 hj hsh Lies.writer]
  simp only [Result.andThen]
  rw [Oper.upon_value]
  go_wp2
  go_end0
  exact ⟨rfl, rfl⟩
/-- Behind the first look: the builder knows its own place. -/
theorem wcopy_any (B b : Nat) (L : List Int) (e : Int) (w : World) (h : WW w B b L e) :
    Calls Try.prog 79 #[.pointer (some ⟨b, 0, none⟩)] w fun r w' => r = .returned (.tuple #[]) ∧ (∃ v, w'.heap[b]? = some (.cells #[.pointer (some ⟨b, 0, none⟩), v, .int .i64 e] 65 (0, 0)) ∧ w'.ownsRow B 5 1 v L.length (Lib.byteCells (bsK L)) ∧ v.ownBlock ≠ some b) ∧ BK B w w' := by
  obtain ⟨h1, p, v, hp, hb, ho, hv⟩ := h
  rcases hp with rfl | rfl
  · refine (wcopy_fresh b w (by simp [World.cell?, hb]) (by simp [World.shape?, hb]) (by simp [World.frozen?, hb])).mono ?_
    rintro r w' ⟨rfl, rfl⟩
    refine ⟨rfl, ⟨v, ?_, own_setK ho hv, hv⟩, BK.set hb h1 _ _⟩
    simp [World.setCell, Array.getElem?_modify, hb]
  · refine (wcopy_used b w (by simp [World.cell?, hb])).mono ?_
    rintro r w' ⟨rfl, rfl⟩
    exact ⟨rfl, ⟨v, hb, ho, hv⟩, BK.refl B _⟩
set_option maxHeartbeats 4000000 in
set_option maxRecDepth 1000000 in
theorem wwrite_any (B b : Nat) (L : List Int) (e : Int) (s : ByteArray) (w : World) (h : WW w B b L e) (hl : L.length + s.size ≤ 100000000) (hB : B ≤ w.heap.size) :
    Calls Try.prog 73 #[.pointer (some ⟨b, 0, none⟩), .string s] w fun r w' => r = .returned (.tuple #[.int .i64 s.size, .nilIface]) ∧ WW w' B b (L ++ nums s) e ∧ BK B w w' := by
  obtain ⟨i0, hi, hz0, hz1, hz2⟩ := info_parts stExtra.infoByte
  have HCC := wcopy_any B b L e w h
  have hBb := h.1
  clear h
  go_enter Try.func73, Try.ntmps73
  go_wp2_with (go_at_call 79; refine HCC.mono ?_)
  rintro r w1 ⟨rfl, ⟨v, hbk, hown, hne⟩, hb1⟩
  obtain ⟨oo, cc, rfl⟩ : ∃ oo cc, v = .slice oo L.length cc := by
    rcases hown.2 with ⟨hv, hz⟩ | ⟨g, cap, cur, hv, _⟩
    · exact ⟨none, 0, by rw [hv, hz]⟩
    · exact ⟨_, _, hv⟩
  have c1 : w1.cell? ⟨b, 1, none⟩ = some (.slice oo L.length cc) := by rw [Lib.cell_of_heap hbk]; rfl
  have hs1 := hb1.size
  go_wp2_with (at_builtin; refine Lib.wpList_append_own_string _ rfl _ _ 61 9 rfl B 5 i0 Try.underlying61 Try.underlying9 hi hz0 hz1 hz2 _ _ _ rfl hown s rfl (by unfold maxLen; omega) (by omega) (by omega) ?_)
  intro v' w2 hown' hgrow _
  have hlt : b < w1.heap.size := (Array.getElem?_eq_some_iff.1 hbk).1
  have hb2 : w2.heap[b]? = some (.cells #[.pointer (some ⟨b, 0, none⟩), .slice oo L.length cc, .int .i64 e] 65 (0, 0)) := by
    rw [hgrow.block b hlt (fun e => hne e.symm)]
    exact hbk
  have d1 : w2.cell? ⟨b, 1, none⟩ = some (.slice oo L.length cc) := by rw [Lib.cell_of_heap hb2]; rfl
  have f1 : w2.frozen? ⟨b, 1, none⟩ = false := Lib.frozen_of_heap hb2 1
  obtain ⟨ao, n', cap, rfl⟩ : ∃ ao n' cap, v' = .slice ao n' cap := by
    rcases hown'.2 with ⟨hv, _⟩ | ⟨g, cap, cur, hv, _⟩
    · exact ⟨_, _, _, hv⟩
    · exact ⟨_, _, _, hv⟩
  have hcells : Lib.byteCells (bsK L) ++ Lib.strCells s = Lib.byteCells (bsK (L ++ nums s)) := by
    rw [bsK_app, bsK_nums, Lib.byteCells_append, Lib.strCells_eq]
  have hne' : (Value.slice ao n' cap).ownBlock ≠ some b := by
    intro e1
    rcases hown'.2 with ⟨hv, _⟩ | ⟨g, c, cur, hv, _, hg, _⟩
    · rw [hv] at e1
      simp [Value.ownBlock] at e1
    · rw [hv] at e1
      simp only [Value.ownBlock, Option.some.injEq] at e1
      rw [e1, hb2] at hg
      simp at hg
  have HBP : Hid (WW (w2.setCell ⟨b, 1, none⟩ (.slice ao n' cap)) B b (L ++ nums s) e) := by
    refine ⟨hBb, _, .slice ao n' cap, Or.inr rfl, ?_, own_setK ?_ hne', hne'⟩
    · simp [World.setCell, Array.getElem?_modify, hb2]
    · rw [← hcells, List.length_append, nums_length]
      exact hown'
  have HBL : Hid (BK B w (w2.setCell ⟨b, 1, none⟩ (.slice ao n' cap))) := ⟨(hb1.b.grown hgrow (by omega) (fun k hk => (hown.lt k hk).1)).setCell (p := ⟨b, 1, none⟩) hBb _, (hb1.k.trans (Kp.grown hown hgrow _ (by decide))).trans (Kp.chg hb2 (Chg.set b 1 w2 _) _ (by decide))⟩
  clear hown' hgrow hown hbk hb2 hcells hne' hne
  go_wp2
  go_ret2
  exact ⟨rfl, HBP.out, HBL.out⟩
set_option maxHeartbeats 4000000 in
set_option maxRecDepth 1000000 in
theorem wstring_any (B b : Nat) (L : List Int) (e : Int) (w : World) (h : WW w B b L e) (h0 : L ≠ []) (hm : L.length ≤ 100000000) :
    Calls Try.prog 29 #[.pointer (some ⟨b, 0, none⟩)] w fun r w' => r = .returned (.string ⟨(bsK L).toArray⟩) ∧ Below B w w' := by
  obtain ⟨hB, p, v, hp, hbk, hown, hne⟩ := h
  have hl0 : L.length ≠ 0 := by simpa using h0
  obtain ⟨g, cap, cur, rfl, hbg, hg, hnc, hcm, hcs, htake⟩ : ∃ g cap cur, v = .slice (some ⟨g, 0, none⟩) L.length cap ∧ B ≤ g ∧ w.heap[g]? = some (.cells cur 5 (0, 0)) ∧ L.length ≤ cap ∧ cap ≤ maxLen ∧ cur.size = cap * 1 ∧ cur.toList.take (L.length * 1) = Lib.byteCells (bsK L) := by
    rcases hown.2 with ⟨_, hz⟩ | ⟨g, cap, cur, hv, r⟩
    · exact absurd hz hl0
    · exact ⟨g, cap, cur, hv, r⟩
  have c1 : w.drew.cell? ⟨b, 1, none⟩ = some (.slice (some ⟨g, 0, none⟩) L.length cap) := by
    have : w.drew.heap[b]? = some (.cells #[p, .slice (some ⟨g, 0, none⟩) L.length cap, .int .i64 e] 65 (0, 0)) := hbk
    rw [Lib.cell_of_heap this]; rfl
  have hSD : (Builtin.unsafeSliceData_ #[61] 94 #[.slice (some ⟨g, 0, none⟩) L.length cap]).run Try.prog w.drew = .ok (.pointer (some ⟨g, 0, none⟩)) w.drew :=
    Lib.run_unsafeSliceData_row _ _ _ _ _ _ (by omega)
  have hUS : (Builtin.unsafeString_ #[94, 3] 9 #[.pointer (some ⟨g, 0, none⟩), .int .i64 (bsK L).length]).run Try.prog w.drew = .ok (.string ⟨(bsK L).toArray⟩) (w.drew.freeze ⟨g, 0, none⟩ (bsK L).length) := by
    refine Lib.run_unsafeString_row w.drew 94 3 9 5 Try.underlying94 stExtra.cellsByte g cur.size (by have hg' : w.drew.heap[g]? = some (.cells cur 5 (0, 0)) := hg; simp [World.shape?, hg']) (bsK L) (by intro e; apply h0; unfold bsK at e; exact List.map_eq_nil_iff.1 e) (by rw [bsK_len]; omega) (by rw [bsK_len]; omega) ?_
    intro j x hx
    have := hown.cells (g := g) rfl j (.int .u8 x.toNat) (by simp [Lib.byteCells, hx])
    exact this
  rw [bsK_len] at hUS
  have mixed : Try.prog.follows .mixedOrders = true := by kernel_rfl
  go_enter Try.func29, Try.ntmps29
  go_wp2
  go_region_o
  all_goals (go_wp2; go_ret; exact ⟨rfl, Lib.below_freeze (Below.drew (Below.refl B w)) (p := ⟨g, 0, none⟩) hbg _⟩)
end Go.Proofs.Ytfmmefmpjejioaa
