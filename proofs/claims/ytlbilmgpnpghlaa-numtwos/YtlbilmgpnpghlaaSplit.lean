/-
  What the document's own Copy and split do.
-/
import Derived.Test.YtlbilmgpnpghlaaTimes
import Derived.Test.YtlbilmgpnpghlaaLess
import Derived.Test.YtlbilmgpnpghlaaSMaths
import Derived.Deep.CutRange
namespace Go.Proofs.Ytlbilmgpnpghlaa
open Go.RowKit

theorem cells_of {w : World} {g : Nat} {bs : List Bool} (hc : ∀ i, i < bs.length → w.cell? ⟨g, i, none⟩ = some (.bool (bs.getD i false))) : ∀ j x, (bs.map Value.bool)[j]? = some x → w.cell? ((⟨g, 0, none⟩ : Addr).add j) = some x := by
  intro j x hx
  have hadd : (⟨g, 0, none⟩ : Addr).add j = ⟨g, j, none⟩ := by unfold Addr.add; split <;> simp_all
  rw [hadd]
  have hj : j < bs.length := by
    rcases Nat.lt_or_ge j bs.length with h | h
    · exact h
    · rw [List.getElem?_eq_none (by simp; omega)] at hx; cases hx
  rw [hc j hj, ← hx, List.getElem?_map, List.getElem?_eq_getElem hj, List.getD_eq_getElem?_getD, List.getElem?_eq_getElem hj]
  rfl
theorem bools_one (bs : List Bool) : ∀ x ∈ bs.map Value.bool, x.oneCell' = true := by intro x hx; obtain ⟨b, _, rfl⟩ := List.mem_map.1 hx; rfl

set_option maxHeartbeats 400000 in
set_option maxRecDepth 1000000 in
theorem copy_any (u : Value) (bs : List Bool) (w : World) (hu : IsW w u bs) (h1 : 1 ≤ bs.length) (h65 : bs.length ≤ 65) :
    Calls Try.prog 39 #[u] w fun e w' => ∃ v', e = .returned v' ∧ w'.ownsRow w.heap.size 4 1 v' bs.length (bs.map Value.bool) ∧ Below w.heap.size w w' := by
  obtain ⟨i0, hi, hz0, hz1, hz2⟩ := info_parts Try.infoBool
  obtain ⟨g, cap, rfl, hcap, hmx, hg, hc⟩ := hu
  unfold maxLen at hmx
  have hnews := cells_of hc
  have hone := bools_one bs
  clear hc
  go_enter Try.func39, Try.ntmps39
  go_wp2_with (at_builtin; refine wpList_append_own _ rfl _ _ 41 rfl w.heap.size 4 i0 (.bool false) 1 1 Try.underlying41 hi hz0 hz1 hz2 rfl (by decide) _ 0 [] rfl (World.ownsRow_nil _ _ _ _) ⟨g, 0, none⟩ bs.length cap (bs.map Value.bool) rfl ?c0 hnews hone ?c3 ?c4 ?c5 ?_)
  case c0 => simp
  case c3 => unfold maxLen; omega
  case c4 => omega
  case c5 => omega
  · intro v' w1 hown' hgrow _
    have hb : Below w.heap.size w w1 := (Below.refl _ w).grown hgrow (Nat.le_refl _) (fun j hj => by simp [Value.ownBlock] at hj)
    clear hgrow
    go_wp2
    go_ret
    exact ⟨_, rfl, hown', hb⟩

theorem own_below {w w' : World} {base : Nat} {e : TypeId} {size : Nat} {g n cap : Nat} {xs : List Value} (h : w.ownsRow base e size (.slice (some ⟨g, 0, none⟩) n cap) n xs) (hb : Below w.heap.size w w') : w'.ownsRow base e size (.slice (some ⟨g, 0, none⟩) n cap) n xs := by
  have hlt := (h.lt g rfl).2
  refine ⟨h.1, ?_⟩
  rcases h.2 with h0 | ⟨g', cap', cur, h', hb', hg, h3⟩
  · exact .inl h0
  · simp only [Value.slice.injEq, Option.some.injEq, Addr.mk.injEq, and_true, true_and] at h'
    obtain ⟨rfl, rfl⟩ := h'
    exact .inr ⟨g, cap, cur, rfl, hb', by rw [hb.block g hlt]; exact hg, h3⟩
theorem isW_setCell {w : World} {g n cap b j : Nat} {x : Value} {bs : List Bool} (h : IsW w (.slice (some ⟨g, 0, none⟩) n cap) bs) (hne : g ≠ b) : IsW (w.setCell ⟨b, j, none⟩ x) (.slice (some ⟨g, 0, none⟩) n cap) bs := by
  obtain ⟨g', cap', h1, h2, h3, h4, h5⟩ := h
  simp only [Value.slice.injEq, Option.some.injEq, Addr.mk.injEq, and_true] at h1
  obtain ⟨rfl, rfl, rfl⟩ := h1
  refine ⟨g, cap, rfl, h2, h3, by simpa using h4, fun i hi => ?_⟩
  rw [World.cell?_of_block (Below.heap_setCell w ⟨b, j, none⟩ x g hne)]
  exact h5 i hi
theorem set_map (ds : List Bool) (j : Nat) (x : Bool) : (ds.map Value.bool).set j (.bool x) = (ds.set j x).map Value.bool := by rw [List.map_set]

end Go.Proofs.Ytlbilmgpnpghlaa
