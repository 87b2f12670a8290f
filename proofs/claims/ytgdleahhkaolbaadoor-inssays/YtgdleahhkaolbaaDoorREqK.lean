/-
  What the document's own Eq does with kinds.
-/
import Derived.Test.YtgdleahhkaolbaaDoorRPlain
import Derived.Test.YtgdleahhkaolbaaDoorInsV3
namespace Go.Proofs.YtgdleahhkaolbaaDoor
open Go.RowKit

/-- A list of kinds. -/
def LK (w : World) (o : Option Addr) (n : Nat) (xs : List Int) : Prop := xs.length = n ∧ (n = 0 ∨ ∃ a : Addr, o = some a ∧ a.block < w.heap.size ∧ ∀ i, i < n → w.cell? (a.add i) = some (.int .u8 (xs.getD i 0)))
theorem LK.below {w w' : World} {o : Option Addr} {n : Nat} {xs : List Int} (h : LK w o n xs) (hb : Below w.heap.size w w') : LK w' o n xs := by
  obtain ⟨h1, h2⟩ := h
  refine ⟨h1, ?_⟩
  rcases h2 with h | ⟨a, e, hl, hc⟩
  · exact Or.inl h
  · refine Or.inr ⟨a, e, Nat.lt_of_lt_of_le hl hb.size, fun i hi => ?_⟩
    rw [hb.cell (by rw [add_block]; exact hl)]
    exact hc i hi
theorem LK_own {w : World} {base k : Nat} {v : Value} {xs : List Int} (h : w.ownsRow base 32 1 v k (xs.map (Value.int .u8))) (hl : xs.length = k) : ∃ o cap, v = .slice o k cap ∧ LK w o k xs ∧ k ≤ cap ∧ cap ≤ maxLen := by
  rcases h.2 with ⟨rfl, h2⟩ | ⟨g, c, cur, rfl, _, _, h2, h3, _⟩
  · subst h2
    exact ⟨none, 0, rfl, ⟨hl, Or.inl rfl⟩, Nat.le_refl _, by unfold maxLen; omega⟩
  · refine ⟨some ⟨g, 0, none⟩, c, rfl, ⟨hl, Or.inr ⟨⟨g, 0, none⟩, rfl, (h.lt g rfl).2, fun i hi => ?_⟩⟩, h2, h3⟩
    exact h.cells (g := g) rfl i (.int .u8 (xs.getD i 0)) (by simp [List.getElem?_eq_getElem (show i < xs.length by omega)])
theorem LK_is {w : World} {B : Nat} {v : Value} {ks : List Int} (h : IsK w B v ks) : ∃ o cap, v = .slice o ks.length cap ∧ LK w o ks.length ks ∧ cap = ks.length := by
  rcases h with ⟨rfl, rfl⟩ | ⟨_, g, rfl, _, hg, hc⟩
  · exact ⟨none, 0, rfl, ⟨rfl, Or.inl rfl⟩, rfl⟩
  · refine ⟨some ⟨g, 0, none⟩, _, rfl, ⟨rfl, Or.inr ⟨⟨g, 0, none⟩, rfl, hg, fun i hi => ?_⟩⟩, rfl⟩
    have hadd : (⟨g, 0, none⟩ : Addr).add i = ⟨g, i, none⟩ := by unfold Addr.add; split <;> simp_all
    rw [hadd]
    exact hc i hi
set_option maxHeartbeats 4000000 in
set_option maxRecDepth 1000000 in
theorem eqK_any (o o' : Option Addr) (xs : List Int) (n cap cap' : Nat) (_hcap : n ≤ cap) (_hcap' : n ≤ cap') (_hm : cap ≤ 9223372036854775807) (_hm' : cap' ≤ 9223372036854775807) (w : World) (h : LK w o n xs) (h' : LK w o' n xs) : Calls Tryd.prog 13 #[.slice o n cap, .slice o' n cap'] w fun r w' => r = .returned (.bool true) ∧ w' = w := by
  have HH : Hid (LK w o n xs) := h
  have HH' : Hid (LK w o' n xs) := h'
  clear h h'
  go_enter Tryd.func13, Tryd.ntmps13
  go_wp2
  go_loop [14] (fun i => ∃ k : Nat, i = .int .i64 k ∧ k ≤ n) (fun i => n - (intOf i).toNat)
  case atStart => exact ⟨0, rfl, by omega⟩
  case round =>
    obtain ⟨k, rfl, hk⟩ := hrel
    by_cases hlt : k < n
    · rcases HH.out.2 with h0 | ⟨a, rfl, _, hc⟩
      · omega
      rcases HH'.out.2 with h0 | ⟨a', rfl, _, hc'⟩
      · omega
      have hcell := hc k hlt
      have hcell' := hc' k hlt
      generalize xs.getD k 0 = x at hcell hcell'
      have hki0 : (0 : Int) ≤ (k : Int) := by omega
      have hki1 : (k : Int) < (n : Int) := by omega
      clear hc hc' HH HH'
      go_wp2
      go_round
      case rel => exact ⟨k + 1, by go_num, by omega⟩
      case measure => simp [intOf]; omega
    · go_wp2
      go_ret
      exact ⟨rfl, rfl⟩
end Go.Proofs.YtgdleahhkaolbaaDoor
