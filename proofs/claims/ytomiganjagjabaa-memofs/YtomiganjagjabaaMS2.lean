/-
  One step of both memories: they say the same, and their bytes are the same behind it.
-/
import Derived.Test.YtomiganjagjabaaMS0
import Derived.Deep.RegionHeld3
namespace Go.Proofs.Ytomiganjagjabaa
open Go.RowKit

/-- Both memories with the same bytes, apart from one another, in blocks that came later than number B. -/
structure PD (B : Nat) (w : World) (P Q : Nat) (most : Int) (g n q : Nat) (b : List Int) : Prop where
  mb : MB w P g n most b
  dm : DM w Q q most b
  ne : P ≠ Q ∧ P ≠ q ∧ g ≠ Q ∧ g ≠ q
  lo : B ≤ P ∧ B ≤ g ∧ B ≤ Q ∧ B ≤ q
  nm : (n : Int) ≤ most ∧ most ≤ 8
theorem MB.keep2 {w w' : World} {P g n Q q : Nat} {most : Int} {b : List Int} (h : MB w P g n most b) (hw : Ch2 Q q w w') (h1 : P ≠ Q) (h2 : P ≠ q) (h3 : g ≠ Q) (h4 : g ≠ q) : MB w' P g n most b := by
  have hl := h.lt
  obtain ⟨⟨cap, L, h, h5⟩, h6, h7⟩ := h
  exact ⟨⟨cap, L, ⟨by rw [hw.block P hl.1 h1 h2]; exact h.hp, by rw [hw.block g hl.2 h3 h4]; exact h.hg, h.len, h.le, h.ne⟩, h5⟩, h6, h7⟩
theorem DM.keep2 {w w' : World} {P g Q q : Nat} {most : Int} {b : List Int} (h : DM w Q q most b) (hw : Ch2 P g w w') (h1 : P ≠ Q) (h2 : P ≠ q) (h3 : g ≠ Q) (h4 : g ≠ q) : DM w' Q q most b := by
  have hl := h.lt
  obtain ⟨⟨cap, X, fz, g1, g2, g3⟩, g4, g5, g6⟩ := h
  exact ⟨⟨cap, X, fz, by rw [hw.block Q hl.1 (Ne.symm h1) (Ne.symm h3)]; exact g1, by rw [hw.block q hl.2 (Ne.symm h2) (Ne.symm h4)]; exact g2, g3⟩, g4, g5, g6⟩
theorem Ch2.cell {P g X i : Nat} {W w1 : World} (h : Ch2 P g W w1) (hX : X < W.heap.size) (h1 : X ≠ P) (h2 : X ≠ g) : w1.cell? ⟨X, i, none⟩ = W.cell? ⟨X, i, none⟩ := by
  simp [World.cell?, h.block X hX h1 h2]
theorem Ch2.heap {P g X : Nat} {W w1 : World} {c : Obj} (h : Ch2 P g W w1) (h0 : W.heap[X]? = some c) (h1 : X ≠ P) (h2 : X ≠ g) : w1.heap[X]? = some c := by
  rw [h.block X (Array.getElem?_eq_some_iff.1 h0).1 h1 h2]
  exact h0
/-- A box of six cells. -/
def Bx6 (W : World) (X : Nat) (c0 c1 c2 c3 c4 c5 : Value) : Prop :=
  W.cell? ⟨X, 0, none⟩ = some c0 ∧ W.cell? ⟨X, 1, none⟩ = some c1 ∧ W.cell? ⟨X, 2, none⟩ = some c2 ∧ W.cell? ⟨X, 3, none⟩ = some c3 ∧ W.cell? ⟨X, 4, none⟩ = some c4 ∧ W.cell? ⟨X, 5, none⟩ = some c5
theorem bx6_of {W : World} {X : Nat} {c0 c1 c2 c3 c4 c5 : Value} {t : TypeId} {fz : Nat × Nat} (h : W.heap[X]? = some (.cells #[c0, c1, c2, c3, c4, c5] t fz)) : Bx6 W X c0 c1 c2 c3 c4 c5 := by
  simp [Bx6, World.cell?, h]
/-- What a step says, and what is left. -/
def SOut (B P Q : Nat) (most : Int) (w : World) (r : Ending) (w' : World) : Prop := r = .returned (.bool true) ∧ (∃ g n q b, PD B w' P Q most g n q b) ∧ Below B w w'
theorem PD.mid {B : Nat} {w W0 w1 W1 : World} {P Q g n q n' : Nat} {most : Int} {b b' : List Int} {v : Value} {r : Ending} (h : PD B w P Q most g n q b) (hB : B ≤ w.heap.size) (h0 : Below w.heap.size w W0) (h1 : MOut P g most W0 v n' b' r w1) (h2 : Below w1.heap.size w1 W1) : DM W1 Q q most b ∧ Below B w W1 := by
  obtain ⟨_, g', _, hc, _⟩ := h1
  have s0 := h0.size
  have s1 := hc.size
  refine ⟨((h.dm.under h0).keep2 hc h.ne.1 h.ne.2.1 h.ne.2.2.1 h.ne.2.2.2).under h2, ?_⟩
  exact ((h0.mono hB).trans (hc.below h.lo.1 h.lo.2.1 (by omega))).trans (h2.mono (by omega))
theorem PD.pair {B : Nat} {w W0 w1 W1 w2 : World} {P Q g n q n' : Nat} {most : Int} {b b' : List Int} {v v' : Value} {r r' : Ending} (h : PD B w P Q most g n q b) (hB : B ≤ w.heap.size) (h0 : Below w.heap.size w W0) (h1 : MOut P g most W0 v n' b' r w1) (h2 : Below w1.heap.size w1 W1) (h3 : DOut Q q most W1 v' b' r' w2) (hn : (n' : Int) ≤ most) :
    (∃ g n q b, PD B w2 P Q most g n q b) ∧ Below B w w2 := by
  have hm := h.mid hB h0 h1 h2
  obtain ⟨_, g', hg, hc, hgg⟩ := h1
  obtain ⟨_, q', hq, hd, hqq⟩ := h3
  have s0 := h0.size
  have s1 := hc.size
  have s2 := h2.size
  have l1 := hg.lt
  have l2 := hm.1.lt
  have l3 := h.mb.lt
  have l4 := h.dm.lt
  have n1 := h.ne
  have n2 := h.lo
  have k1 : P ≠ q ∧ g' ≠ Q ∧ g' ≠ q := by
    rcases hgg with rfl | hgg
    · exact n1.2
    · exact ⟨n1.2.1, by omega, by omega⟩
  have k2 : P ≠ q' ∧ g' ≠ q' := by
    rcases hqq with rfl | hqq
    · exact ⟨k1.1, k1.2.2⟩
    · exact ⟨by omega, by omega⟩
  refine ⟨⟨g', n', q', b', (hg.under h2).keep2 hd n1.1 k1.1 k1.2.1 k1.2.2, hq, ⟨n1.1, k2.1, k1.2.1, k2.2⟩, ⟨n2.1, ?_, n2.2.2.1, ?_⟩, ⟨hn, h.nm.2⟩⟩, ?_⟩
  · rcases hgg with rfl | hgg <;> omega
  · rcases hqq with rfl | hqq <;> omega
  · exact hm.2.trans (hd.below n2.2.2.1 n2.2.2.2 (by omega))
theorem boxCh {P g n' X : Nat} {most : Int} {W w1 : World} {v : Value} {b' : List Int} {r : Ending} {c : Obj} (h : MOut P g most W v n' b' r w1) (hl : P < X ∧ g < X) (h0 : W.heap[X]? = some c) : w1.heap[X]? = some c := by
  obtain ⟨_, g', _, hc, _⟩ := h
  exact hc.heap h0 (by omega) (by omega)
theorem gwR_le (b : List Int) (n : Nat) (most x : Int) (h : (n : Int) ≤ most) : ((gwR b n most x).2.2 : Int) ≤ most := by
  unfold gwR
  split <;> simp <;> omega
set_option maxHeartbeats 4000000 in
set_option maxRecDepth 1000000 in
theorem mstep0 (B P Q g n q : Nat) (most : Int) (b : List Int) (kind : Int) (op : Nat) (x y v : Int) (s : ByteArray) (hk : stpN kind = 0) (w : World) (hB : B ≤ w.heap.size) (h : PD B w P Q most g n q b)
    (HD : ∀ W, DM W Q q most b → Below B w W → Calls Try.prog 14 #[.pointer (some ⟨Q, 0, none⟩), .int .u8 (op : Int), .int .i64 x, .int .i64 y] W (DOut Q q most W (.tuple #[.int .i64 (ldR b (op : Int) x y).1, .int .i64 (ldR b (op : Int) x y).2]) (b))) :
    Calls Try.prog 7 #[.pointer (some ⟨P, 0, none⟩), .pointer (some ⟨Q, 0, none⟩), .agg #[.int .i64 kind, .int .u8 (op : Int), .int .i64 x, .int .i64 y, .int .i64 v, .string s]] w (SOut B P Q most w) := by
  have HM : Hid (∀ W, Below w.heap.size w W → Calls Try.prog 13 #[.pointer (some ⟨P, 0, none⟩), .int .u8 (op : Int), .int .i64 x, .int .i64 y] W (MOut P g most W (.tuple #[.int .i64 (ldR b (op : Int) x y).1, .int .i64 (ldR b (op : Int) x y).2]) (n) (b))) := fun W hW => mload_all P g n most b (op : Int) x y W (h.mb.under hW)
  have HS : Hid (∀ W, Calls Try.prog 12 #[.int .i64 kind, .int .i64 7] W fun r w' => r = .returned (.int .i64 0) ∧ w' = W) := fun W => by
    have := step7 kind W
    rw [hk] at this
    exact this
  have HD' : Hid (type_of% HD) := HD
  have HN : Hid (((n : Nat) : Int) ≤ most) := h.nm.1
  have hl1 := h.mb.lt
  have hl2 := h.dm.lt
  have HL : Hid (P < w.heap.size ∧ g < w.heap.size) := hl1
  have H : Hid (PD B w P Q most g n q b) := h
  have HB : Hid (B ≤ w.heap.size) := hB
  obtain ⟨c0, c1, c2, c3, c4, c5⟩ := bx6_of (heap_alloc_new w (.cells #[.int .i64 kind, .int .u8 (op : Int), .int .i64 x, .int .i64 y, .int .i64 v, .string s] 31))
  have HX : Hid ((w.alloc (.cells #[.int .i64 kind, .int .u8 (op : Int), .int .i64 x, .int .i64 y, .int .i64 v, .string s] 31)).heap[w.heap.size]? = some (.cells #[.int .i64 kind, .int .u8 (op : Int), .int .i64 x, .int .i64 y, .int .i64 v, .string s] 31 (0, 0))) := heap_alloc_new w _
  have HA : Hid (Below w.heap.size w (w.alloc (.cells #[.int .i64 kind, .int .u8 (op : Int), .int .i64 x, .int .i64 y, .int .i64 v, .string s] 31))) := (Below.refl _ _).alloc (Nat.le_refl _) _
  obtain ⟨z1, hz1⟩ : ∃ z1, z1 = (ldR b (op : Int) x y).1 := ⟨_, rfl⟩
  obtain ⟨z2, hz2⟩ : ∃ z2, z2 = (ldR b (op : Int) x y).2 := ⟨_, rfl⟩
  rw [← hz1, ← hz2] at HM HD'
  clear hz1 hz2
  clear h HD hl1 hl2 hB hk
  go_enter Try.func7, Try.ntmps7
  go_wp2_with (first | (go_at_call 12; refine (HS.out _).mono ?_; rintro r w1 ⟨rfl, rfl⟩) | (go_at_call 13; refine (HM.out _ HA.out).mono ?_; rintro r w1 hm1; have hr1 := hm1.1; subst hr1; have HM1 : Hid (type_of% hm1) := hm1; obtain ⟨d0, d1, d2, d3, d4, d5⟩ := bx6_of (boxCh hm1 HL.out HX.out); clear hm1 c0 c1 c2 c3 c4 c5) | (go_at_call 14; refine (HD'.out _ (H.out.mid HB.out HA.out HM1.out (Below.refl _ _)).1 (H.out.mid HB.out HA.out HM1.out (Below.refl _ _)).2).mono ?_; rintro r w2 hm2; have hr2 := hm2.1; subst hr2; have HM2 : Hid (type_of% hm2) := hm2; clear hm2))
  go_ret
  exact ⟨rfl, H.out.pair HB.out HA.out HM1.out (Below.refl _ _) HM2.out HN.out⟩
set_option maxHeartbeats 4000000 in
set_option maxRecDepth 1000000 in
theorem mstep3 (B P Q g n q : Nat) (most : Int) (b : List Int) (kind : Int) (op : Nat) (x y v : Int) (s : ByteArray) (hk : stpN kind = 3) (hx : x ≤ 9223372036854775807) (w : World) (hB : B ≤ w.heap.size) (h : PD B w P Q most g n q b)
    (HD : ∀ W, DM W Q q most b → Below B w W → Calls Try.prog 20 #[.pointer (some ⟨Q, 0, none⟩), .int .i64 x, .int .i64 y] W (DOut Q q most W (.tuple #[.string (byR b x y).1, .int .i64 (byR b x y).2]) (b))) :
    Calls Try.prog 7 #[.pointer (some ⟨P, 0, none⟩), .pointer (some ⟨Q, 0, none⟩), .agg #[.int .i64 kind, .int .u8 (op : Int), .int .i64 x, .int .i64 y, .int .i64 v, .string s]] w (SOut B P Q most w) := by
  have HM : Hid (∀ W, Below w.heap.size w W → Calls Try.prog 19 #[.pointer (some ⟨P, 0, none⟩), .int .i64 x, .int .i64 y] W (MOut P g most W (.tuple #[.string (byR b x y).1, .int .i64 (byR b x y).2]) (n) (b))) := fun W hW => mbytes_all P g n most b x y hx W (h.mb.under hW)
  have HS : Hid (∀ W, Calls Try.prog 12 #[.int .i64 kind, .int .i64 7] W fun r w' => r = .returned (.int .i64 3) ∧ w' = W) := fun W => by
    have := step7 kind W
    rw [hk] at this
    exact this
  have HD' : Hid (type_of% HD) := HD
  have HN : Hid (((n : Nat) : Int) ≤ most) := h.nm.1
  have hl1 := h.mb.lt
  have hl2 := h.dm.lt
  have HL : Hid (P < w.heap.size ∧ g < w.heap.size) := hl1
  have H : Hid (PD B w P Q most g n q b) := h
  have HB : Hid (B ≤ w.heap.size) := hB
  obtain ⟨c0, c1, c2, c3, c4, c5⟩ := bx6_of (heap_alloc_new w (.cells #[.int .i64 kind, .int .u8 (op : Int), .int .i64 x, .int .i64 y, .int .i64 v, .string s] 31))
  have HX : Hid ((w.alloc (.cells #[.int .i64 kind, .int .u8 (op : Int), .int .i64 x, .int .i64 y, .int .i64 v, .string s] 31)).heap[w.heap.size]? = some (.cells #[.int .i64 kind, .int .u8 (op : Int), .int .i64 x, .int .i64 y, .int .i64 v, .string s] 31 (0, 0))) := heap_alloc_new w _
  have HA : Hid (Below w.heap.size w (w.alloc (.cells #[.int .i64 kind, .int .u8 (op : Int), .int .i64 x, .int .i64 y, .int .i64 v, .string s] 31))) := (Below.refl _ _).alloc (Nat.le_refl _) _
  obtain ⟨z1, hz1⟩ : ∃ z1, z1 = (byR b x y).1 := ⟨_, rfl⟩
  obtain ⟨z2, hz2⟩ : ∃ z2, z2 = (byR b x y).2 := ⟨_, rfl⟩
  rw [← hz1, ← hz2] at HM HD'
  clear hz1 hz2
  clear h HD hl1 hl2 hB hk
  go_enter Try.func7, Try.ntmps7
  go_wp2_with (first | (go_at_call 12; refine (HS.out _).mono ?_; rintro r w1 ⟨rfl, rfl⟩) | (go_at_call 19; refine (HM.out _ HA.out).mono ?_; rintro r w1 hm1; have hr1 := hm1.1; subst hr1; have HM1 : Hid (type_of% hm1) := hm1; obtain ⟨d0, d1, d2, d3, d4, d5⟩ := bx6_of (boxCh hm1 HL.out HX.out); clear hm1 c0 c1 c2 c3 c4 c5) | (go_at_call 20; refine (HD'.out _ (H.out.mid HB.out HA.out HM1.out (Below.refl _ _)).1 (H.out.mid HB.out HA.out HM1.out (Below.refl _ _)).2).mono ?_; rintro r w2 hm2; have hr2 := hm2.1; subst hr2; have HM2 : Hid (type_of% hm2) := hm2; clear hm2))
  go_ret
  exact ⟨rfl, H.out.pair HB.out HA.out HM1.out (Below.refl _ _) HM2.out HN.out⟩
end Go.Proofs.Ytomiganjagjabaa
