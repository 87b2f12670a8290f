/-
  What the document's own up and minus do.
-/
import Derived.Test.YtlbilmgpnpghlaaAdd
import Derived.Laws.MakeOwn
import Derived.Laws.OwnMore
namespace Go.Proofs.Ytlbilmgpnpghlaa
open Go.RowKit

theorem mk_word (n : Nat) (h : n ≤ 65) (w : World) :
    (Instr.makeSlice 42 (.int .i64 n) (.int .i64 n)).run Try.prog w = .ok (.slice (some ⟨w.heap.size, 0, none⟩) n n) (w.alloc (.cells (madeCells #[.bool false] n) 4)) := by
  obtain ⟨i0, hi, hz0, hz1, hz2⟩ := info_parts Try.infoBool
  have := run_make (P := Try.prog) w 42 4 i0 (.bool false) Try.underlying42 hi hz0 .i64 .i64 (n : Int) (n : Int) (by omega) (by omega) (by rw [hz2]; omega) (by omega)
  rw [hz1, Nat.mul_one, Int.toNat_natCast] at this
  exact this
theorem made_false (n : Nat) : (madeCells #[.bool false] n).toList = (List.replicate n false).map Value.bool := by
  unfold madeCells
  apply List.ext_getElem
  · simp
  · intro i h1 h2
    simp [Nat.mod_one]
theorem made_own (w : World) (n : Nat) (h : n ≤ 65) : (w.alloc (.cells (madeCells #[.bool false] n) 4)).ownsRow w.heap.size 4 1 (.slice (some ⟨w.heap.size, 0, none⟩) n n) n ((List.replicate n false).map Value.bool) := by
  rw [← made_false]
  exact World.ownsRow_lit w _ n (Nat.le_refl _) (by unfold maxLen; omega) (by rw [size_madeCells, Nat.mul_one])

theorem news_alloc {w : World} {g : Nat} {xs : List Value} (hg : g < w.heap.size) (o : Obj) (h : ∀ j x, xs[j]? = some x → w.cell? ((⟨g, 0, none⟩ : Addr).add j) = some x) : ∀ j x, xs[j]? = some x → (w.alloc o).cell? ((⟨g, 0, none⟩ : Addr).add j) = some x := fun j x hx => by
  have hadd : (⟨g, 0, none⟩ : Addr).add j = ⟨g, j, none⟩ := by unfold Addr.add; split <;> simp_all
  have := h j x hx
  rw [hadd] at this ⊢
  rw [World.cell?_alloc_lt (h := hg)]
  exact this
theorem news_drew {w : World} {g : Nat} {xs : List Value} (h : ∀ j x, xs[j]? = some x → w.cell? ((⟨g, 0, none⟩ : Addr).add j) = some x) : ∀ j x, xs[j]? = some x → w.drew.cell? ((⟨g, 0, none⟩ : Addr).add j) = some x := h

set_option maxHeartbeats 1000000 in
set_option maxRecDepth 1000000 in
theorem up_any (u : Value) (bs : List Bool) (n : Nat) (w : World) (hu : IsW w u bs) (hn : n < bs.length) (h65 : bs.length ≤ 65) :
    Calls Try.prog 54 #[u, .int .i64 n] w fun e w' => ∃ v', e = .returned v' ∧ w'.ownsRow w.heap.size 4 1 v' bs.length ((List.replicate n false ++ bs.take (bs.length - n)).map Value.bool) ∧ Below w.heap.size w w' := by
  obtain ⟨i0, hi, hz0, hz1, hz2⟩ := info_parts Try.infoBool
  obtain ⟨g, cap, rfl, hcap, hmx, hg, hc⟩ := hu
  unfold maxLen at hmx
  have hmk := mk_word n (by omega)
  have hmo := made_own w n (by omega)
  obtain ⟨L, hL⟩ : ∃ L, bs.length = L := ⟨_, rfl⟩
  rw [hL] at hcap hc hn h65 ⊢
  obtain ⟨m, hm⟩ : ∃ m, L - n = m := ⟨_, rfl⟩
  rw [hm]
  have hm0 : 0 < m := by omega
  have hnews : ∀ j x, ((bs.take m).map Value.bool)[j]? = some x → w.cell? ((⟨g, 0, none⟩ : Addr).add j) = some x := by
    intro j x hx
    have hadd : (⟨g, 0, none⟩ : Addr).add j = ⟨g, j, none⟩ := by unfold Addr.add; split <;> simp_all
    rw [hadd]
    have hj : j < m := by
      rcases Nat.lt_or_ge j m with h | h
      · exact h
      · rw [List.getElem?_eq_none (by simp; omega)] at hx; cases hx
    rw [hc j (by omega), ← hx, List.getElem?_map, List.getElem?_take_of_lt hj, List.getElem?_eq_getElem (by omega), List.getD_eq_getElem?_getD, List.getElem?_eq_getElem (by omega)]
    rfl
  have h0 : (0 : Int) ≤ (m : Int) := by omega
  have h1 : (m : Int) ≤ (cap : Int) := by omega
  have hsub : IntKind.i64.wrap ((L : Int) - (n : Int)) = (m : Int) := by rw [IntKind.wrap_i64]; omega
  have HL : Hid (n + m = L) := by unfold Hid; omega
  have HL2 : Hid (bs.length = L) := hL
  clear hL hm hc hn
  have hone : ∀ x ∈ (bs.take m).map Value.bool, x.oneCell' = true := by intro x hx; obtain ⟨b, _, rfl⟩ := List.mem_map.1 hx; rfl
  go_enter Try.func54, Try.ntmps54
  go_wp2
  go_region_held3 (fun _ => True)
    (trivial)
    ((refine step_append_lies _ (by rfl) _ _ _ (by rfl) w.heap.size 4 i0 _ 1 1 Try.underlying42 hi hz0 hz1 hz2 rfl (by omega) _ n ((List.replicate n false).map Value.bool) (by rfl) hmo.drew
        ⟨g, 0, none⟩ m cap ((bs.take m).map Value.bool) (by rfl) (by simp [HL2.out]; have := HL.out; omega) (news_drew (news_alloc hg _ hnews)) hone
        (by omega) (by unfold maxLen; have := HL.out; omega) (by have := HL.out; omega) (by simp) (w.heap.size + 1) (by simp) ?_; intro gg cap2 w1 hown1 hgrow hat hlt2))
  have hb : Below w.heap.size w w1 := (((Below.refl w.heap.size w).alloc (by omega) _).drew).grown hgrow (by simp) (by intro j hj; simp [Value.ownBlock] at hj; omega)
  have hown2 : w1.ownsRow w.heap.size 4 1 (.slice (some ⟨gg, 0, none⟩) (n + m) cap2) L ((List.replicate n false ++ bs.take m).map Value.bool) := by rw [List.map_append, ← HL.out]; exact hown1
  clear hown1 hgrow hat hlt2
  go_wp2
  go_ret
  exact ⟨_, rfl, hown2, hb⟩

theorem below_then {w w1 w2 : World} (h : Below w.heap.size w w1) (k : Below w1.heap.size w1 w2) : Below w.heap.size w w2 := h.trans (k.mono h.size)
theorem made_isW (w : World) (n : Nat) (h1 : 1 ≤ n) (h : n ≤ 65) : IsW (w.alloc (.cells (madeCells #[.bool false] n) 4)) (.slice (some ⟨w.heap.size, 0, none⟩) n n) (List.replicate n false) :=
  isW_own (by rw [List.length_replicate]; exact made_own w n h) (by rw [List.length_replicate]; omega)
theorem IsW.drew {w : World} {v : Value} {bs : List Bool} (h : IsW w v bs) : IsW w.drew v bs := h
theorem IsW.alloc {w : World} {v : Value} {bs : List Bool} (h : IsW w v bs) (o : Obj) : IsW (w.alloc o) v bs := h.below ((Below.refl _ w).alloc (Nat.le_refl _) o)
/-- What minus makes of a word. -/
def negL (bs : List Bool) : List Bool := addL (bs.map (! ·)) (List.replicate bs.length false) true

set_option maxHeartbeats 1000000 in
set_option maxRecDepth 1000000 in
theorem minus_any (u : Value) (bs : List Bool) (w : World) (hu : IsW w u bs) (h1 : 1 ≤ bs.length) (h65 : bs.length ≤ 65) :
    Calls Try.prog 49 #[u] w fun e w' => ∃ v', e = .returned v' ∧ IsW w' v' (negL bs) ∧ Below w.heap.size w w' := by
  have hmk := mk_word bs.length h65
  have HU : Hid (IsW w u bs) := hu
  obtain ⟨g, cap, rfl, hcap, hmx, hg, hc⟩ := hu
  unfold maxLen at hmx
  go_enter Try.func49, Try.ntmps49
  go_wp2
  go_region_with (first
    | (go_at_call 45; refine (not_any _ bs _ ?_ h1 h65).mono ?_; (first | exact HU.out.drew | exact (HU.out.alloc _).drew); rintro e w1 ⟨v1, rfl, hv1, b1⟩)
    | (go_at_call 44; refine (add_any _ _ (bs.map (! ·)) (List.replicate bs.length false) true _ ?_ ?_ (by simp) (by simp; omega) (by simp; omega)).mono ?_; (first | exact hv1 | exact hv1.alloc _); (first | exact made_isW _ _ h1 h65 | exact (made_isW w _ h1 h65).drew.below b1); rintro e w2 ⟨v2, rfl, hv2, b2⟩))
  all_goals
    have hB : Below w.heap.size w w2 := by
      first
        | exact below_then (below_then (w1 := w.drew) (Below.refl _ w).drew b1) (below_then ((Below.refl _ w1).alloc (Nat.le_refl _) _) b2)
        | exact below_then (below_then (((Below.refl _ w).alloc (Nat.le_refl _) _).drew) b1) b2
    clear b1 b2 hmk hc
    go_wp2
    go_ret
    exact ⟨_, rfl, hv2, hB⟩

theorem size_any (u : Value) (bs : List Bool) (w : World) (hu : IsW w u bs) (h1 : 1 ≤ bs.length) (h65 : bs.length ≤ 65) :
    Calls Try.prog 47 #[u] w fun e w' => ∃ v', e = .returned v' ∧ IsW w' v' (if bs.getD (bs.length - 1) false then negL bs else bs) ∧ Below w.heap.size w w' := by
  have HU : Hid (IsW w u bs) := hu
  obtain ⟨g, cap, rfl, hcap, hmx, hg, hc⟩ := hu
  unfold maxLen at hmx
  have hcell := hc (bs.length - 1) (by omega)
  cases hb : bs.getD (bs.length - 1) false with
  | true =>
    rw [hb] at hcell
    simp only [if_true]
    have HM : Hid (Calls Try.prog 49 #[.slice (some ⟨g, 0, none⟩) bs.length cap] w fun e w' => ∃ v', e = .returned v' ∧ IsW w' v' (negL bs) ∧ Below w.heap.size w w') := minus_any _ bs w HU.out h1 h65
    clear hc hb
    go_enter Try.func47, Try.ntmps47
    go_wp2_with fail
    refine HM.out.mono ?_
    rintro e w1 ⟨v1, rfl, hv1, b1⟩
    go_wp2
    go_ret
    exact ⟨_, rfl, hv1, b1⟩
  | false =>
    rw [hb] at hcell
    simp only [Bool.false_eq_true, if_false]
    clear hc hb
    go_enter Try.func47, Try.ntmps47
    go_wp2
    go_ret
    exact ⟨_, rfl, HU.out, Below.refl _ _⟩

end Go.Proofs.Ytlbilmgpnpghlaa
