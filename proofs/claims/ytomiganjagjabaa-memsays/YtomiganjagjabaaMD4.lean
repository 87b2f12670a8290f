/-
  What the document's Store does.
-/
import Derived.Test.YtomiganjagjabaaMD3
namespace Go.Proofs.Ytomiganjagjabaa
open Go.RowKit

theorem by8_get (V i : Nat) (hi : i < 8) : (by8 V).getD i 0 = ((V / 2 ^ (8 * i) % 256 : Nat) : Int) := by simp [by8, hi]
theorem splice_set' (b d : List Int) (a i : Nat) (hi : i < d.length) (hb : a + i < b.length) (_h : True) : (splice b a (d.take i)).set (a + i) (d.getD i 0) = splice b a (d.take (i + 1)) := by
  have l1 : (d.take i).length = i := by rw [List.length_take]; omega
  have l2 : (d.take (i + 1)).length = i + 1 := by rw [List.length_take]; omega
  have l3 : (splice b a (d.take i)).length = b.length := length_splice _ _ _ (by omega)
  apply List.ext_getElem?
  intro j
  rw [List.getElem?_set, splice_get _ _ _ (by omega), splice_get _ _ _ (by omega), l1, l2]
  by_cases hj : a + i = j
  · subst hj
    rw [if_pos rfl, if_pos (by omega), if_pos (by omega), show a + i - a = i by omega, List.getElem?_take_of_lt (by omega)]
    simp [hi]
  · rw [if_neg hj]
    by_cases h1 : a ≤ j ∧ j < a + i
    · rw [if_pos h1, if_pos (by omega), List.getElem?_take_of_lt (by omega), List.getElem?_take_of_lt (by omega)]
    · rw [if_neg h1, if_neg (by omega)]
set_option maxHeartbeats 1000000 in
set_option maxRecDepth 1000000 in
theorem dstore_no (Q : Nat) (op : Nat) (base off v : Int) (e : Int) (w : World)
    (HP : Calls Try.prog 33 #[.pointer (some ⟨Q, 0, none⟩), .int .u8 (op : Int), .bool true, .int .i64 base, .int .i64 off] w fun r w'' => r = .returned (.tuple #[.int .i64 0, .int .i64 0, .int .i64 e]) ∧ Below w.heap.size w w'') :
    Calls Try.prog 16 #[.pointer (some ⟨Q, 0, none⟩), .int .u8 (op : Int), .int .i64 base, .int .i64 off, .int .i64 v] w fun r w' => r = .returned (.int .i64 e) ∧ Below w.heap.size w w' := by
  go_enter Try.func16, Try.ntmps16
  go_wp2_with fail
  refine HP.mono ?_
  rintro r w1 ⟨rfl, hb1⟩
  have HB1 : Hid (type_of% hb1) := hb1
  clear hb1
  go_wp2_with fail
  go_loopw [25] (fun iv wr => iv = .int .i64 0 ∧ Hid (wr = w1)) (fun _ _ => 0)
  case atStart => exact ⟨rfl, rfl⟩
  case round =>
    obtain ⟨rfl, HE⟩ := hrel
    go_wp2
    go_ret
    obtain rfl := HE.out
    exact ⟨rfl, HB1.out⟩
set_option maxHeartbeats 2000000 in
set_option maxRecDepth 1000000 in
theorem dstore_yes (Q q : Nat) (most : Int) (b : List Int) (op wd a : Nat) (base off v : Int) (h8 : wd ≤ 8) (hfit : a + wd ≤ b.length) (w : World) (h : DM w Q q most b)
    (HP : Calls Try.prog 33 #[.pointer (some ⟨Q, 0, none⟩), .int .u8 (op : Int), .bool true, .int .i64 base, .int .i64 off] w fun r w'' => r = .returned (.tuple #[.int .i64 (a : Int), .int .i64 (wd : Int), .int .i64 0]) ∧ Below w.heap.size w w'') :
    Calls Try.prog 16 #[.pointer (some ⟨Q, 0, none⟩), .int .u8 (op : Int), .int .i64 base, .int .i64 off, .int .i64 v] w fun r w' => r = .returned (.int .i64 0) ∧ DM w' Q q most (splice b a ((by8 (u64 v)).take wd)) ∧ Chg q w w' := by
  have hfew := h.few
  obtain ⟨d, hd⟩ : ∃ d, d = by8 (u64 v) := ⟨_, rfl⟩
  have hdl : d.length = 8 := by rw [hd]; exact by8_len _
  have HG : Hid (∀ i : Nat, i < 8 → d.getD i 0 = ((Go.Proofs.Ytomiganjagjabaa.u64 v / 2 ^ (8 * i) % 256 : Nat) : Int)) := fun i hi => by rw [hd]; exact by8_get _ i hi
  rw [← hd]
  have HD : Hid (DM w Q q most b) := h
  clear h hd
  go_enter Try.func16, Try.ntmps16
  go_wp2_with fail
  refine HP.mono ?_
  rintro r w1 ⟨rfl, hb1⟩
  have HD1 : Hid (type_of% (HD.out.under hb1)) := HD.out.under hb1
  have HC1 : Hid (Chg q w w1) := Chg.of_below hb1
  clear hb1 HD
  go_wp2_with fail
  go_loopw [25] (fun iv wr => ∃ i : Nat, iv = .int .i64 (i : Int) ∧ i ≤ wd ∧ Hid (DM wr Q q most (splice b a (d.take i))) ∧ Hid (Chg q w wr)) (fun iv _ => wd - (intOf iv).toNat)
  case atStart => exact ⟨0, rfl, by omega, by unfold Hid; rw [splice_none]; exact HD1.out, HC1⟩
  case round =>
    obtain ⟨i, rfl, hi, HDi, HC⟩ := hrel
    clear HD1 HC1
    by_cases hil : i < wd
    · have hi1 : (i : Int) < (wd : Int) := by omega
      have hlen : (splice b a (d.take i)).length = b.length := length_splice _ _ _ (by rw [List.length_take]; omega)
      obtain ⟨cap, hcap, hc0⟩ := HDi.out.c0
      rw [hlen] at hc0 hcap
      have hin : a + i < (splice b a (d.take i)).length := by omega
      have hcc := HDi.out.cell (a + i) hin
      have hff := HDi.out.f (a + i) hin
      have HSET : Hid (∀ z : Int, z = ((Go.Proofs.Ytomiganjagjabaa.u64 v / 2 ^ (8 * i) % 256 : Nat) : Int) → DM (wr.setCell ⟨q, a + i, none⟩ (.int .u8 z)).drew Q q most (splice b a (d.take (i + 1)))) := fun z hz => by
        have h1 := HDi.out.set (a + i) z hin (by rw [hz]; omega)
        rw [hz, ← HG.out i (by omega), splice_set' b d a i (by omega) (by omega) trivial] at h1
        rw [hz, ← HG.out i (by omega)]
        exact h1.under ((Below.refl _ _).drew)
      have HCS : Hid (∀ z : Int, Chg q w (wr.setCell ⟨q, a + i, none⟩ (.int .u8 z)).drew) := fun z =>
        HC.out.trans ⟨rfl, rfl, rfl, by simp [World.setCell, World.drew], fun k _ hk => by show (wr.setCell ⟨q, a + i, none⟩ (.int .u8 z)).heap[k]? = _; rw [Below.heap_setCell _ ⟨q, a + i, none⟩ _ k hk]⟩
      have HK1 : Hid (i + 1 ≤ wd) := hil
      have HK2 : Hid (wd - (i + 1) < wd - i) := by unfold Hid; omega
      have hlt1 : (a : Int) + (i : Int) < (b.length : Int) := by omega
      have hlt0 : (0 : Int) ≤ (a : Int) + (i : Int) := by omega
      have hi8 : i = 0 ∨ i = 1 ∨ i = 2 ∨ i = 3 ∨ i = 4 ∨ i = 5 ∨ i = 6 ∨ i = 7 := by omega
      clear hlen hin HDi HC hdl hil HG hi
      rcases hi8 with rfl | rfl | rfl | rfl | rfl | rfl | rfl | rfl
      · rw [Nat.add_zero] at hcc hff HSET HCS
        go_wp2_with fail
        go_region
        go_wp2
        go_roundw
        case rel => exact ⟨1, rfl, HK1.out, HSET.out _ (by unfold Go.Proofs.Ytomiganjagjabaa.u64; simp; omega), HCS.out _⟩
        case measure => exact HK2.out
      · go_wp2_with fail
        go_region
        go_wp2
        go_roundw
        case rel => exact ⟨2, rfl, HK1.out, HSET.out _ (by unfold Go.Proofs.Ytomiganjagjabaa.u64; simp; omega), HCS.out _⟩
        case measure => exact HK2.out
      · go_wp2_with fail
        go_region
        go_wp2
        go_roundw
        case rel => exact ⟨3, rfl, HK1.out, HSET.out _ (by unfold Go.Proofs.Ytomiganjagjabaa.u64; simp; omega), HCS.out _⟩
        case measure => exact HK2.out
      · go_wp2_with fail
        go_region
        go_wp2
        go_roundw
        case rel => exact ⟨4, rfl, HK1.out, HSET.out _ (by unfold Go.Proofs.Ytomiganjagjabaa.u64; simp; omega), HCS.out _⟩
        case measure => exact HK2.out
      · go_wp2_with fail
        go_region
        go_wp2
        go_roundw
        case rel => exact ⟨5, rfl, HK1.out, HSET.out _ (by unfold Go.Proofs.Ytomiganjagjabaa.u64; simp; omega), HCS.out _⟩
        case measure => exact HK2.out
      · go_wp2_with fail
        go_region
        go_wp2
        go_roundw
        case rel => exact ⟨6, rfl, HK1.out, HSET.out _ (by unfold Go.Proofs.Ytomiganjagjabaa.u64; simp; omega), HCS.out _⟩
        case measure => exact HK2.out
      · go_wp2_with fail
        go_region
        go_wp2
        go_roundw
        case rel => exact ⟨7, rfl, HK1.out, HSET.out _ (by unfold Go.Proofs.Ytomiganjagjabaa.u64; simp; omega), HCS.out _⟩
        case measure => exact HK2.out
      · go_wp2_with fail
        go_region
        go_wp2
        go_roundw
        case rel => exact ⟨8, rfl, HK1.out, HSET.out _ (by unfold Go.Proofs.Ytomiganjagjabaa.u64; simp; omega), HCS.out _⟩
        case measure => exact HK2.out
    · have hi1 : ¬ ((i : Int) < (wd : Int)) := by omega
      obtain rfl : i = wd := by omega
      go_wp2
      go_ret
      exact ⟨rfl, HDi.out, HC.out⟩
end Go.Proofs.Ytomiganjagjabaa
