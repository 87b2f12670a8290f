/-
  One step of both memories that only looks.
-/
import Derived.Test.YtomiganjagjabaaMS3
namespace Go.Proofs.Ytomiganjagjabaa
open Go.RowKit

set_option maxHeartbeats 4000000 in
set_option maxRecDepth 1000000 in
theorem mstep5 (B P Q g n q : Nat) (most : Int) (b : List Int) (kind : Int) (op : Nat) (x y v : Int) (s : ByteArray) (hk : stpN kind = 5) (w : World) (hB : B ≤ w.heap.size) (h : PD B w P Q most g n q b) :
    Calls Try.prog 7 #[.pointer (some ⟨P, 0, none⟩), .pointer (some ⟨Q, 0, none⟩), .agg #[.int .i64 kind, .int .u8 (op : Int), .int .i64 x, .int .i64 y, .int .i64 v, .string s]] w (SOut B P Q most w) := by
  have HM : Hid (∀ W, Below w.heap.size w W → Calls Try.prog 8 #[.pointer (some ⟨P, 0, none⟩)] W fun r w' => r = .returned (.int .i64 (n : Int)) ∧ w' = W) := fun W hW => msize_any P g n most b W (h.mb.under hW)
  have HS : Hid (∀ W, Calls Try.prog 12 #[.int .i64 kind, .int .i64 7] W fun r w' => r = .returned (.int .i64 5) ∧ w' = W) := fun W => by
    have := step7 kind W
    rw [hk] at this
    exact this
  have HA : Hid (∀ c, Below w.heap.size w (w.alloc c)) := fun c => (Below.refl _ _).alloc (Nat.le_refl _) _
  have HC : Hid (∀ c, ∃ cap : Nat, (w.alloc c).cell? ⟨Q, 0, none⟩ = some (.slice (some ⟨q, 0, none⟩) b.length cap)) := fun c => by
    obtain ⟨cap, _, hc⟩ := (h.dm.under (HA.out c)).c0
    exact ⟨cap, hc⟩
  have hlen := h.mb.len
  obtain ⟨cap, hcq⟩ := HC.out (.cells #[.int .i64 kind, .int .u8 (op : Int), .int .i64 x, .int .i64 y, .int .i64 v, .string s] 31)
  obtain ⟨c0, c1, c2, c3, c4, c5⟩ := bx6_of (heap_alloc_new w (.cells #[.int .i64 kind, .int .u8 (op : Int), .int .i64 x, .int .i64 y, .int .i64 v, .string s] 31))
  have hn8 := h.mb.n8
  obtain ⟨K, hK⟩ : ∃ K, K = b.length := ⟨_, rfl⟩
  rw [← hK] at hcq hlen
  have hq : (K : Int) / 256 = (n : Int) := by omega
  have hwr : IntKind.i64.wrap (n : Int) = (n : Int) := by
    rw [IntKind.wrap_i64, Int.emod_eq_of_lt (by omega) (by omega)]
    omega
  have HE : Hid (∀ c, SOut B P Q most w (.returned (.bool true)) (w.alloc c).drew) := fun c => ⟨rfl, ⟨g, n, q, b, h.mb.under (HA.out c).drew, h.dm.under (HA.out c).drew, h.ne, h.lo, h.nm⟩, ((HA.out c).mono hB).drew⟩
  clear hK hlen hk hB h HC
  go_enter Try.func7, Try.ntmps7
  go_wp2_with (go_at_call 12; refine (HS.out _).mono ?_; rintro r w1 ⟨rfl, rfl⟩)
  go_region_held3 (fun w' => w'.cell? ⟨Q, 0, none⟩ = some (.slice (some ⟨q, 0, none⟩) K cap))
    (first | exact hcq | go_keep)
    (first
      | (go_at_call 8; refine (HM.out _ (HA.out _).drew).mono ?_; rintro r w2 ⟨rfl, rfl⟩))
  go_wp2
  go_ret
  exact ⟨rfl, (HE.out _).2⟩
set_option maxHeartbeats 4000000 in
set_option maxRecDepth 1000000 in
theorem mstep6 (B P Q g n q : Nat) (most : Int) (b : List Int) (kind : Int) (op : Nat) (x y v : Int) (s : ByteArray) (hk : stpN kind = 6) (w : World) (hB : B ≤ w.heap.size) (h : PD B w P Q most g n q b) :
    Calls Try.prog 7 #[.pointer (some ⟨P, 0, none⟩), .pointer (some ⟨Q, 0, none⟩), .agg #[.int .i64 kind, .int .u8 (op : Int), .int .i64 x, .int .i64 y, .int .i64 v, .string s]] w (SOut B P Q most w) := by
  obtain ⟨t, ht⟩ : ∃ t, t = strOfNums b := ⟨_, rfl⟩
  have HM : Hid (∀ W, Below w.heap.size w W → Calls Try.prog 9 #[.pointer (some ⟨P, 0, none⟩)] W fun r w' => r = .returned (.string t) ∧ Below W.heap.size W w') := fun W hW => by
    have := mall_any P g n most b W (h.mb.under hW)
    rw [← ht] at this
    exact this
  have HS : Hid (∀ W, Calls Try.prog 12 #[.int .i64 kind, .int .i64 7] W fun r w' => r = .returned (.int .i64 6) ∧ w' = W) := fun W => by
    have := step7 kind W
    rw [hk] at this
    exact this
  have HA : Hid (∀ c, Below w.heap.size w (w.alloc c)) := fun c => (Below.refl _ _).alloc (Nat.le_refl _) _
  obtain ⟨cap, hcap, hc0⟩ := h.dm.c0
  have HC : Hid (∀ W, Below w.heap.size w W → W.cell? ⟨Q, 0, none⟩ = some (.slice (some ⟨q, 0, none⟩) b.length cap)) := fun W hW => by
    rw [hW.cell h.dm.lt.1]
    exact hc0
  have HCV : Hid (∀ W, Below w.heap.size w W → (convert 34 9 (.slice (some ⟨q, 0, none⟩) b.length cap)).run Try.prog W = .ok (.string t) W) := fun W hW => by
    have := (h.dm.under hW).str 0 b.length cap (by omega)
    rw [List.drop_zero, List.take_length, ← ht] at this
    exact this
  have hcq := HC.out _ (HA.out (.cells #[.int .i64 kind, .int .u8 (op : Int), .int .i64 x, .int .i64 y, .int .i64 v, .string s] 31))
  obtain ⟨c0, c1, c2, c3, c4, c5⟩ := bx6_of (heap_alloc_new w (.cells #[.int .i64 kind, .int .u8 (op : Int), .int .i64 x, .int .i64 y, .int .i64 v, .string s] 31))
  have HE : Hid (∀ W, Below w.heap.size w W → SOut B P Q most w (.returned (.bool true)) W) := fun W hW => ⟨rfl, ⟨g, n, q, b, h.mb.under hW, h.dm.under hW, h.ne, h.lo, h.nm⟩, hW.mono hB⟩
  clear hk hB h ht hcap hc0
  go_enter Try.func7, Try.ntmps7
  go_wp2_with (go_at_call 12; refine (HS.out _).mono ?_; rintro r w1 ⟨rfl, rfl⟩)
  have hcv := HCV.out _ (HA.out (.cells #[.int .i64 kind, .int .u8 (op : Int), .int .i64 x, .int .i64 y, .int .i64 v, .string s] 31)).drew
  have H0 : Hid (type_of% (HA.out (.cells #[.int .i64 kind, .int .u8 (op : Int), .int .i64 x, .int .i64 y, .int .i64 v, .string s] 31)).drew) := (HA.out (.cells #[.int .i64 kind, .int .u8 (op : Int), .int .i64 x, .int .i64 y, .int .i64 v, .string s] 31)).drew
  clear HA
  go_region_held3 (fun w' => w'.cell? ⟨Q, 0, none⟩ = some (.slice (some ⟨q, 0, none⟩) b.length cap) ∧ (convert 34 9 (.slice (some ⟨q, 0, none⟩) b.length cap)).run Try.prog w' = .ok (.string t) w')
    (first | exact ⟨hcq, hcv⟩ | exact ⟨HC.out _ HB2.out, HCV.out _ HB2.out⟩ | go_keep)
    (first
      | (go_at_call 9; refine (HM.out _ H0.out).mono ?_; rintro r w2 ⟨rfl, hb2⟩; have HB2 : Hid (Below w.heap.size w w2) := H0.out.trans (hb2.mono (H0.out.size)); have hcv2 := HCV.out _ HB2.out; clear hb2))
  all_goals
    go_wp2
    go_ret
    exact ⟨rfl, (HE.out _ HB2.out).2⟩
end Go.Proofs.Ytomiganjagjabaa
