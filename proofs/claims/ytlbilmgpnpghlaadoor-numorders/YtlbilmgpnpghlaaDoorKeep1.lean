/-
  What the laws' own small functions do: two, width, fits.
-/
import Derived.Test.YtlbilmgpnpghlaaDoorNum6
import Derived.Laws.MakeOwn
import Derived.Laws.OwnMore
import Derived.WalkKit
import Derived.WalkSpells
import Derived.WalkSmall
import Derived.Deep.QuietTactic
import Derived.BigQuiet
namespace Go.Proofs.YtlbilmgpnpghlaaDoor
open Go.RowKit

set_option maxHeartbeats 1000000 in
set_option maxRecDepth 1000000 in
theorem ktwo (op a b R E : Int) (Q : World → World → Prop) (HL : Hid (∀ w, Calls Tryd.prog 23 #[.int .u8 op, .int .i64 a, .int .i64 b] w fun e w' => e = .returned (.tuple #[.int .i64 R, .int .i64 E]) ∧ Q w w')) (w : World) :
    Calls Tryd.prog 11 #[.int .u8 op, .int .i64 a, .int .i64 b] w fun e w' => e = .returned (.int .i64 R) ∧ Q w w' := by
  go_enter Tryd.func11, Tryd.ntmps11
  go_wp2_with fail
  refine (HL.out _).mono ?_
  rintro e w1 ⟨rfl, b1⟩
  go_wp2
  go_ret
  exact ⟨rfl, b1⟩
set_option maxHeartbeats 1000000 in
set_option maxRecDepth 1000000 in
theorem kwidth_n (op : Int) (w : World) :
    Calls Tryd.prog 12 #[.int .u8 op, .bool false] w fun e w' => e = .returned (.int .u8 op) ∧ w' = w := by
  go_enter Tryd.func12, Tryd.ntmps12
  go_wp2
  go_ret
  exact ⟨rfl, rfl⟩
set_option maxHeartbeats 1000000 in
set_option maxRecDepth 1000000 in
theorem kwidth_a (op : Int) (_h0 : 0 ≤ op) (_h1 : op < 80) (w : World) :
    Calls Tryd.prog 12 #[.int .u8 op, .bool true] w fun e w' => e = .returned (.int .u8 (op + 11)) ∧ w' = w := by
  go_enter Tryd.func12, Tryd.ntmps12
  go_wp2
  go_ret
  exact ⟨rfl, rfl⟩
set_option maxHeartbeats 1000000 in
set_option maxRecDepth 1000000 in
theorem kwidth_b (op : Int) (_h0 : 80 ≤ op) (_h1 : op < 230) (w : World) :
    Calls Tryd.prog 12 #[.int .u8 op, .bool true] w fun e w' => e = .returned (.int .u8 (op + 18)) ∧ w' = w := by
  go_enter Tryd.func12, Tryd.ntmps12
  go_wp2
  go_ret
  exact ⟨rfl, rfl⟩
set_option maxHeartbeats 1000000 in
set_option maxRecDepth 1000000 in
theorem fits_wide (g n : Nat) (hn : n ≤ 10) (w : World) :
    Calls Tryd.prog 9 #[.bool true, .slice (some ⟨g, 0, none⟩) n n] w fun e w' => e = .returned (.slice (some ⟨g, 0, none⟩) n n) ∧ w' = w := by
  go_enter Tryd.func9, Tryd.ntmps9
  go_wp2
  go_loop [5, 8] (fun _ i => ∃ k : Nat, i = .int .i64 k ∧ k ≤ n) (fun _ i => n - (intOf i).toNat)
  case atStart => exact ⟨0, rfl, by omega⟩
  case round =>
    obtain ⟨k, rfl, hk⟩ := hrel
    by_cases hlt : k < n
    · go_wp2
      go_round
      case rel => exact ⟨k + 1, by go_num, by omega⟩
      case measure => simp [intOf]; omega
    · go_wp2
      go_ret
      exact ⟨rfl, rfl⟩

/-- The first k numbers fitted to 32 bits, the rest as they are. -/
def fitK (xs : List Int) (k : Nat) : List Int := (xs.take k).map wrap32 ++ xs.drop k
theorem fitK_length (xs : List Int) (k : Nat) : (fitK xs k).length = xs.length := by simp [fitK]; omega
theorem fitK_zero (xs : List Int) : fitK xs 0 = xs := by simp [fitK]
theorem fitK_all (xs : List Int) : fitK xs xs.length = xs.map wrap32 := by simp [fitK]
theorem fitK_at (xs : List Int) (k : Nat) (h : k < xs.length) : ((fitK xs k).map (Value.int .i64))[k]? = some (.int .i64 (xs.getD k 0)) := by
  have h2 : k < (fitK xs k).length := by rw [fitK_length]; exact h
  rw [List.getElem?_map, List.getElem?_eq_getElem h2]
  simp [fitK, Nat.min_eq_left (Nat.le_of_lt h), List.getD_eq_getElem?_getD, List.getElem?_eq_getElem h]
theorem fitK_set (xs : List Int) (k : Nat) (h : k < xs.length) : (fitK xs k).set k (wrap32 (xs.getD k 0)) = fitK xs (k + 1) := by
  have hl : ((xs.take k).map wrap32).length = k := by simp; omega
  unfold fitK
  rw [List.set_append_right _ _ (by omega), hl, Nat.sub_self, List.drop_eq_getElem_cons h, List.set_cons_zero, List.take_succ_eq_append_getElem h, List.map_append, List.append_assoc]
  simp [List.getD_eq_getElem?_getD, List.getElem?_eq_getElem h]
theorem w64_of_w32 (x : Int) : wrap64 (wrap32 x) = wrap32 x := w64_w32 x

set_option maxHeartbeats 1000000 in
set_option maxRecDepth 1000000 in
theorem fits_narrow (B g n : Nat) (xs : List Int) (hl : xs.length = n) (hn : n ≤ 10) (w : World) (ho : w.ownsRow B 2 1 (.slice (some ⟨g, 0, none⟩) n n) n (xs.map (Value.int .i64))) (hB : B ≤ g) :
    Calls Tryd.prog 9 #[.bool false, .slice (some ⟨g, 0, none⟩) n n] w fun e w' => e = .returned (.slice (some ⟨g, 0, none⟩) n n) ∧ w'.ownsRow B 2 1 (.slice (some ⟨g, 0, none⟩) n n) n ((xs.map wrap32).map (Value.int .i64)) ∧ Below B w w' := by
  have HL : Hid (xs.length = n) := hl
  clear hl
  go_enter Tryd.func9, Tryd.ntmps9
  go_wp2
  go_loopw [5, 8] (fun _ i wr => ∃ k : Nat, i = .int .i64 k ∧ k ≤ n ∧ wr.ownsRow B 2 1 (.slice (some ⟨g, 0, none⟩) n n) n ((fitK xs k).map (Value.int .i64)) ∧ Below B w wr) (fun _ i _ => n - (intOf i).toNat)
  case atStart => exact ⟨0, rfl, by omega, by rw [fitK_zero]; exact ho, Below.refl _ _⟩
  case round =>
    obtain ⟨k, rfl, hk, hq, hb⟩ := hrel
    clear ho
    by_cases hlt : k < n
    · have hk0 : (0 : Int) ≤ (k : Int) := by omega
      have hk1 : (k : Int) < (n : Int) := by omega
      have hcq : wr.cell? ⟨g, k, none⟩ = some (.int .i64 (xs.getD k 0)) := (hq.cellAt k (by omega)).trans (fitK_at xs k (by rw [HL.out]; exact hlt))
      have hfq := hq.frozenAt k
      have hst := (hq.stored k (.int .i64 (wrap32 (xs.getD k 0)))).1
      rw [← List.map_set, fitK_set xs k (by rw [HL.out]; exact hlt)] at hst
      have HST : Hid _ := hst
      have HBB : Hid (Below B w (wr.setCell ⟨g, k, none⟩ (.int .i64 (wrap32 (xs.getD k 0))))) := hb.setCell (p := ⟨g, k, none⟩) hB _
      generalize hx : xs.getD k 0 = x at hcq HBB HST
      have hww := w64_of_w32 x
      clear hst hq hb hx
      go_wp2
      go_roundw
      case rel => exact ⟨k + 1, by go_num, by omega, HST.out, HBB.out⟩
      case measure => simp [intOf]; omega
    · have hkW : k = n := by omega
      subst hkW
      rw [← HL.out, fitK_all, HL.out] at hq
      go_wp2
      go_ret
      exact ⟨rfl, hq, hb⟩

end Go.Proofs.YtlbilmgpnpghlaaDoor
