/-
  What the program's own nest.copied does.
-/
import Derived.Test.YtmbficofcmfmlaaDoorNRow
import Derived.Laws.AppendOwn
import Derived.Laws.AppendOwnNone
import Derived.Laws.OwnMore
namespace Go.Proofs.YtmbficofcmfmlaaDoor
open Go.RowKit

/-- An instruction whose numbers lie in a row of numbers. -/
def OkT (w : World) (d : InsD) : Prop := d.ok w ∧ (0 < d.n → ∃ (g : Addr) (cur : Array Value) (f : Nat × Nat), d.o = some g ∧ w.heap[g.block]? = some (.cells cur 2 f))
theorem ownI {w : World} {B cap n : Nat} {o : Option Addr} {xs : List Int} {op A B' : Int} (h : w.ownsRow B 2 1 (.slice o n cap) n (xs.map (Value.int .i64))) (h0 : 0 ≤ op) (h1 : op ≤ 255) (hA : -9223372036854775808 ≤ A ∧ A ≤ 9223372036854775807) : OkT w ⟨op, A, B', o, n, cap, xs⟩ := by
  have hl : xs.length = n := by have := h.1; simpa using this
  rcases h.2 with ⟨hv, hn⟩ | ⟨g, c, cur, hv, hb, hg, hc, hm, _⟩
  · simp only [Value.slice.injEq] at hv
    obtain ⟨rfl, _, rfl⟩ := hv
    exact ⟨⟨h0, h1, hA, by simp only; omega, by unfold maxLen; simp, ⟨hl, Or.inl hn⟩, fun _ => rfl⟩, fun h => by simp only at h; omega⟩
  · simp only [Value.slice.injEq] at hv
    obtain ⟨rfl, _, rfl⟩ := hv
    refine ⟨⟨h0, h1, hA, hc, hm, ⟨hl, ?_⟩, by simp⟩, fun _ => ⟨_, cur, _, rfl, hg⟩⟩
    rcases Nat.eq_zero_or_pos n with h0 | h0
    · exact Or.inl h0
    · right
      refine ⟨⟨g, 0, none⟩, rfl, (h.lt g rfl).2, fun i hi => ?_⟩
      have hi2 : i < xs.length := by simp only at hi; omega
      exact h.cells (g := g) rfl i (.int .i64 (xs.getD i 0)) (by
        rw [List.getElem?_map, List.getElem?_eq_getElem hi2, List.getD_eq_getElem?_getD, List.getElem?_eq_getElem hi2]
        rfl)
theorem own_put {w : World} {B k : Nat} {e : TypeId} {v : Value} {xs : List Value} (h : w.ownsRow B e 1 v k xs) (P i : Nat) (u : Value) (hf : v.ownBlock ≠ some P) : (w.setCell ⟨P, i, none⟩ u).ownsRow B e 1 v k xs := ownsRow_setCell_other h hf u
set_option maxHeartbeats 4000000 in
set_option maxRecDepth 1000000 in
theorem copied_none (op A B : Int) (w : World) :
    Calls Tryd.prog 86 #[.agg #[.int .u8 op, .int .i64 A, .int .i64 B, .slice none 0 0]] w fun r w' => r = .returned (.agg #[.int .u8 op, .int .i64 A, .int .i64 B, .slice none 0 0]) ∧ Below w.heap.size w w' := by
  obtain ⟨i0, hi, hz0, hz1, hz2⟩ := info_parts Tryd.infoI64
  go_enter Tryd.func86, Tryd.ntmps86
  go_wp2_with (at_builtin; refine wpList_append_own_none rfl _ _ 50 rfl w.heap.size 2 i0 1 Tryd.underlying50 hi _ 0 [] rfl (World.ownsRow_nil _ _ _ _) rfl ?_)
  go_wp2
  refine bodyPost_ret (v := .agg #[(.int .u8 op), (.int .i64 A), (.int .i64 B), (.slice none 0 0)]) (by simp [results, Tryd.results86, go_sem]) rfl ?_
  exact ⟨rfl, ((Below.refl _ _).alloc (Nat.le_refl _) _).alloc (by simp) _⟩
set_option maxHeartbeats 4000000 in
set_option maxRecDepth 1000000 in
theorem copied_some (op A B : Int) (a : Addr) (n cap : Nat) (xs : List Int) (hn : n ≤ 16) (w : World) (h : LJ w (some a) n xs) :
    Calls Tryd.prog 86 #[.agg #[.int .u8 op, .int .i64 A, .int .i64 B, .slice (some a) n cap]] w fun r w' => ∃ (o' : Option Addr) (cap' : Nat), r = .returned (.agg #[.int .u8 op, .int .i64 A, .int .i64 B, .slice o' n cap']) ∧ w'.ownsRow w.heap.size 2 1 (.slice o' n cap') n (xs.map (Value.int .i64)) ∧ Below w.heap.size w w' := by
  obtain ⟨i0, hi, hz0, hz1, hz2⟩ := info_parts Tryd.infoI64
  have xX : XS ((w.alloc (.cells #[.int .u8 op, .int .i64 A, .int .i64 B, .slice (some a) n cap] 52)).alloc (.cells #[.int .u8 0, .int .i64 0, .int .i64 0, .slice none 0 0] 52)) w.heap.size (.int .u8 op) (.int .i64 A) (.int .i64 B) (.slice (some a) n cap) := by
    unfold XS
    rw [Below.heap_alloc _ _ _ (by simp)]
    exact new_block _ _
  have xR : XS ((w.alloc (.cells #[.int .u8 op, .int .i64 A, .int .i64 B, .slice (some a) n cap] 52)).alloc (.cells #[.int .u8 0, .int .i64 0, .int .i64 0, .slice none 0 0] 52)) (w.heap.size + 1) (.int .u8 0) (.int .i64 0) (.int .i64 0) (.slice none 0 0) := by
    have := new_block (w.alloc (.cells #[.int .u8 op, .int .i64 A, .int .i64 B, .slice (some a) n cap] 52)) (.cells #[.int .u8 0, .int .i64 0, .int .i64 0, .slice none 0 0] 52)
    rw [World.size_alloc] at this
    exact this
  have hb2 : Below w.heap.size w ((w.alloc (.cells #[.int .u8 op, .int .i64 A, .int .i64 B, .slice (some a) n cap] 52)).alloc (.cells #[.int .u8 0, .int .i64 0, .int .i64 0, .slice none 0 0] 52)) := ((Below.refl _ _).alloc (Nat.le_refl _) _).alloc (by simp) _
  have hsz2 : ((w.alloc (.cells #[.int .u8 op, .int .i64 A, .int .i64 B, .slice (some a) n cap] 52)).alloc (.cells #[.int .u8 0, .int .i64 0, .int .i64 0, .slice none 0 0] 52)).heap.size = w.heap.size + 2 := by simp
  have HB0 : Hid (type_of% hb2) := hb2
  have HLJ : Hid (LJ _ (some a) n xs) := h.below hb2
  clear h hb2
  go_enter Tryd.func86, Tryd.ntmps86
  have HL : Hid (xs.length = n) := HLJ.out.1
  have HC : Hid (∀ i, i < n → ((w.alloc (.cells #[.int .u8 op, .int .i64 A, .int .i64 B, .slice (some a) n cap] 52)).alloc (.cells #[.int .u8 0, .int .i64 0, .int .i64 0, .slice none 0 0] 52)).cell? (a.add i) = some (.int .i64 (xs.getD i 0))) := by
    intro i hi
    rcases HLJ.out.2 with h | ⟨a', h, _, hc⟩
    · omega
    · cases h
      exact hc i hi
  go_wp2_with (at_builtin; refine wpList_append_own _ rfl _ _ 50 rfl (w.heap.size + 2) 2 i0 (.int .i64 0) 1 8 Tryd.underlying50 hi hz0 hz1 hz2 rfl (by decide) _ 0 [] rfl (World.ownsRow_nil _ _ _ _) a n cap (xs.map (Value.int .i64)) rfl ?c0 ?c1 ?c2 ?c3 ?c4 ?c5 ?_)
  case c0 => rw [List.length_map, HL.out]; omega
  case c1 =>
    intro j u hu
    have hj : j < xs.length := by
      have := (List.getElem?_eq_some_iff.1 hu).1
      rwa [List.length_map] at this
    rw [HC.out j (by rw [← HL.out]; exact hj), ← hu, List.getElem?_map, List.getElem?_eq_getElem hj, List.getD_eq_getElem?_getD, List.getElem?_eq_getElem hj]
    rfl
  case c2 => intro u hu; obtain ⟨x, _, rfl⟩ := List.mem_map.1 hu; rfl
  case c3 => unfold maxLen; omega
  case c4 => omega
  case c5 => omega
  intro v' w1 hown hgrow _
  have hb1 : Below ((w.alloc (.cells #[.int .u8 op, .int .i64 A, .int .i64 B, .slice (some a) n cap] 52)).alloc (.cells #[.int .u8 0, .int .i64 0, .int .i64 0, .slice none 0 0] 52)).heap.size ((w.alloc (.cells #[.int .u8 op, .int .i64 A, .int .i64 B, .slice (some a) n cap] 52)).alloc (.cells #[.int .u8 0, .int .i64 0, .int .i64 0, .slice none 0 0] 52)) w1 := (Below.refl _ _).grown hgrow (Nat.le_refl _) (fun j hj => by cases hj)
  have HB : Hid (Below w.heap.size w w1) := HB0.out.trans (hb1.mono (by omega))
  replace xX := xX.under hb1
  replace xR := xR.under hb1
  obtain ⟨o', cap', rfl⟩ : ∃ o' cap', v' = .slice o' n cap' := by
    rcases hown.2 with ⟨hv, h0⟩ | ⟨g, c, cur, hv, _⟩
    · exact ⟨none, 0, by rw [hv, h0]⟩
    · exact ⟨_, _, hv⟩
  have hfar : ∀ P, P < w.heap.size + 2 → (Value.slice o' n cap').ownBlock ≠ some P := fun P hP e => by
    have := (hown.lt P e).1
    omega
  have HOW : Hid (World.ownsRow _ w.heap.size 2 1 (.slice o' n cap') n (xs.map (Value.int .i64))) := ownsRow_down (own_put (own_put (own_put (own_put (own_put hown w.heap.size 3 (.slice o' n cap') (hfar _ (by omega))) (w.heap.size + 1) 0 (.int .u8 op) (hfar _ (by omega))) (w.heap.size + 1) 1 (.int .i64 A) (hfar _ (by omega))) (w.heap.size + 1) 2 (.int .i64 B) (hfar _ (by omega))) (w.heap.size + 1) 3 (.slice o' n cap') (hfar _ (by omega))) (by omega)
  clear hown hgrow hb1 hfar HC HL HLJ HB0
  obtain ⟨x0, x1, x2, x3⟩ := xX.cell
  have fX := xX.frozen 3
  obtain ⟨y0, y1, y2, y3⟩ := xR.cell
  have f0 := xR.frozen 0
  have f1 := xR.frozen 1
  have f2 := xR.frozen 2
  have f3 := xR.frozen 3
  have HFX : Hid (XS _ (w.heap.size + 1) _ _ _ _) := ((((xR.far w.heap.size 3 (.slice o' n cap') (by omega)).set0 (.int .u8 op)).set1 (.int .i64 A)).set2 (.int .i64 B)).set3 (.slice o' n cap')
  have HBX : Hid (Below w.heap.size w _) := ((((HB.out.setCell (p := ⟨w.heap.size, 3, none⟩) (Nat.le_refl _) (.slice o' n cap')).setCell (p := ⟨w.heap.size + 1, 0, none⟩) (by simp) (.int .u8 op)).setCell (p := ⟨w.heap.size + 1, 1, none⟩) (by simp) (.int .i64 A)).setCell (p := ⟨w.heap.size + 1, 2, none⟩) (by simp) (.int .i64 B)).setCell (p := ⟨w.heap.size + 1, 3, none⟩) (by simp) (.slice o' n cap')
  clear xX xR HB
  go_wp2
  obtain ⟨q0, q1, q2, q3⟩ := XS.cell HFX.out
  refine bodyPost_ret (v := .agg #[(.int .u8 op), (.int .i64 A), (.int .i64 B), (.slice o' n cap')]) (by simp [results, Tryd.results86, go_sem, q0, q1, q2, q3]) rfl ?_
  exact ⟨o', cap', rfl, HOW.out, HBX.out⟩
theorem copied_any (d : InsD) (hn : d.n ≤ 16) (w : World) (h : d.ok w) :
    Calls Tryd.prog 86 #[.agg #[.int .u8 d.op, .int .i64 d.A, .int .i64 d.B, .slice d.o d.n d.cap]] w fun r w' => ∃ d' : InsD, r = .returned (.agg #[.int .u8 d'.op, .int .i64 d'.A, .int .i64 d'.B, .slice d'.o d'.n d'.cap]) ∧ d'.val = d.val ∧ d'.n = d.n ∧ OkT w' d' ∧ Below w.heap.size w w' := by
  obtain ⟨op, A, B, o, n, cap, xs⟩ := d
  have h0 := h.op0
  have h1 := h.op1
  have ha := h.a
  have hl := h.lj
  have hx := h.nil
  simp only at hn h0 h1 ha hl hx
  cases o with
  | none =>
    have hc := hx rfl
    have hn0 : n = 0 := by
      rcases hl.2 with h | ⟨_, h, _⟩
      · exact h
      · cases h
    subst hc hn0
    have hxs : xs = [] := List.length_eq_zero_iff.1 hl.1
    subst hxs
    refine (copied_none op A B w).mono ?_
    rintro r w' ⟨rfl, b⟩
    exact ⟨⟨op, A, B, none, 0, 0, []⟩, rfl, rfl, rfl, ⟨h.below b, fun h => absurd h (by simp)⟩, b⟩
  | some a =>
    refine (copied_some op A B a n cap xs hn w hl).mono ?_
    rintro r w' ⟨o', cap', rfl, ho, b⟩
    exact ⟨⟨op, A, B, o', n, cap', xs⟩, rfl, rfl, rfl, ownI ho h0 h1 ha, b⟩

end Go.Proofs.YtmbficofcmfmlaaDoor
