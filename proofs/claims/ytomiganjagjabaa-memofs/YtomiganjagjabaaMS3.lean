/-
  One step of both memories: they say the same, and their bytes are the same behind it.
-/
import Derived.Test.YtomiganjagjabaaMS2
namespace Go.Proofs.Ytomiganjagjabaa
open Go.RowKit

theorem boxChD {Q q X : Nat} {most : Int} {W w1 : World} {v : Value} {b' : List Int} {r : Ending} {c : Obj} (h : DOut Q q most W v b' r w1) (hl : Q < X ∧ q < X) (h0 : W.heap[X]? = some c) : w1.heap[X]? = some c := by
  obtain ⟨_, g', _, hc, _⟩ := h
  exact hc.heap h0 (by omega) (by omega)
set_option maxHeartbeats 4000000 in
set_option maxRecDepth 1000000 in
theorem mstep1 (B P Q g n q : Nat) (most : Int) (b : List Int) (kind : Int) (op : Nat) (x y v : Int) (s : ByteArray) (hk : stpN kind = 1) (w : World) (hB : B ≤ w.heap.size) (h : PD B w P Q most g n q b)
    (HD : ∀ W, DM W Q q most b → Below B w W → Calls Try.prog 16 #[.pointer (some ⟨Q, 0, none⟩), .int .u8 (op : Int), .int .i64 x, .int .i64 y, .int .i64 v] W (DOut Q q most W (.int .i64 (stR b (op : Int) x y v).2) ((stR b (op : Int) x y v).1))) :
    Calls Try.prog 7 #[.pointer (some ⟨P, 0, none⟩), .pointer (some ⟨Q, 0, none⟩), .agg #[.int .i64 kind, .int .u8 (op : Int), .int .i64 x, .int .i64 y, .int .i64 v, .string s]] w (SOut B P Q most w) := by
  have HM : Hid (∀ W, Below w.heap.size w W → Calls Try.prog 15 #[.pointer (some ⟨P, 0, none⟩), .int .u8 (op : Int), .int .i64 x, .int .i64 y, .int .i64 v] W (MOut P g most W (.int .i64 (stR b (op : Int) x y v).2) (n) ((stR b (op : Int) x y v).1))) := fun W hW => mstore_all P g n most b (op : Int) x y v W (h.mb.under hW)
  have HS : Hid (∀ W, Calls Try.prog 12 #[.int .i64 kind, .int .i64 7] W fun r w' => r = .returned (.int .i64 1) ∧ w' = W) := fun W => by
    have := step7 kind W
    rw [hk] at this
    exact this
  have HD' : Hid (type_of% HD) := HD
  have HN : Hid (((n : Nat) : Int) ≤ most) := h.nm.1
  have hl1 := h.mb.lt
  have hl2 := h.dm.lt
  have HL : Hid (P < w.heap.size ∧ g < w.heap.size) := hl1
  have HL2 : Hid (Q < w.heap.size ∧ q < w.heap.size) := hl2
  have H : Hid (PD B w P Q most g n q b) := h
  have HB : Hid (B ≤ w.heap.size) := hB
  obtain ⟨c0, c1, c2, c3, c4, c5⟩ := bx6_of (heap_alloc_new w (.cells #[.int .i64 kind, .int .u8 (op : Int), .int .i64 x, .int .i64 y, .int .i64 v, .string s] 31))
  have HX : Hid ((w.alloc (.cells #[.int .i64 kind, .int .u8 (op : Int), .int .i64 x, .int .i64 y, .int .i64 v, .string s] 31)).heap[w.heap.size]? = some (.cells #[.int .i64 kind, .int .u8 (op : Int), .int .i64 x, .int .i64 y, .int .i64 v, .string s] 31 (0, 0))) := heap_alloc_new w _
  have HA : Hid (Below w.heap.size w (w.alloc (.cells #[.int .i64 kind, .int .u8 (op : Int), .int .i64 x, .int .i64 y, .int .i64 v, .string s] 31))) := (Below.refl _ _).alloc (Nat.le_refl _) _
  obtain ⟨z1, hz1⟩ : ∃ z1, z1 = (stR b (op : Int) x y v).2 := ⟨_, rfl⟩
  obtain ⟨z2, hz2⟩ : ∃ z2, z2 = (stR b (op : Int) x y v).1 := ⟨_, rfl⟩
  rw [← hz1, ← hz2] at HM HD'
  clear hz1 hz2
  clear h HD hl1 hl2 hB hk
  go_enter Try.func7, Try.ntmps7
  go_wp2_with (go_at_call 12; refine (HS.out _).mono ?_; rintro r w1 ⟨rfl, rfl⟩)
  go_region_held3 (fun w' => w'.cell? ⟨w.heap.size, 0, none⟩ = some (.int .i64 kind) ∧ w'.cell? ⟨w.heap.size, 1, none⟩ = some (.int .u8 (op : Int)) ∧ w'.cell? ⟨w.heap.size, 2, none⟩ = some (.int .i64 x) ∧ w'.cell? ⟨w.heap.size, 3, none⟩ = some (.int .i64 y) ∧ w'.cell? ⟨w.heap.size, 4, none⟩ = some (.int .i64 v) ∧ w'.cell? ⟨w.heap.size, 5, none⟩ = some (.string s))
    (first | exact ⟨e0, e1, e2, e3, e4, e5⟩ | exact ⟨d0, d1, d2, d3, d4, d5⟩ | exact ⟨c0, c1, c2, c3, c4, c5⟩ | go_keep)
    (first
      | (go_at_call 15; refine (HM.out _ (HA.out.drew)).mono ?_; rintro r w1 hm1; have hr1 := hm1.1; subst hr1; have HM1 : Hid (type_of% hm1) := hm1; have HX1 : Hid (type_of% (boxCh hm1 HL.out HX.out)) := boxCh hm1 HL.out HX.out; obtain ⟨d0, d1, d2, d3, d4, d5⟩ := bx6_of HX1.out; clear hm1 c0 c1 c2 c3 c4 c5)
      | (go_at_call 16; refine (HD'.out _ (H.out.mid HB.out (HA.out.drew) HM1.out (Below.refl _ _)).1 (H.out.mid HB.out (HA.out.drew) HM1.out (Below.refl _ _)).2).mono ?_; rintro r w2 hm2; have hr2 := hm2.1; subst hr2; have HM2 : Hid (type_of% hm2) := hm2; obtain ⟨e0, e1, e2, e3, e4, e5⟩ := bx6_of (boxChD hm2 HL2.out HX1.out); clear hm2 d0 d1 d2 d3 d4 d5))
  go_wp2
  go_ret
  exact ⟨rfl, H.out.pair HB.out (HA.out.drew) HM1.out (Below.refl _ _) HM2.out HN.out⟩
set_option maxHeartbeats 4000000 in
set_option maxRecDepth 1000000 in
theorem mstep2 (B P Q g n q : Nat) (most : Int) (b : List Int) (kind : Int) (op : Nat) (x y v : Int) (s : ByteArray) (hk : stpN kind = 2) (w : World) (hB : B ≤ w.heap.size) (h : PD B w P Q most g n q b)
    (HD : ∀ W, DM W Q q most b → Below B w W → Calls Try.prog 18 #[.pointer (some ⟨Q, 0, none⟩), .int .i64 x] W (DOut Q q most W (.int .i64 (gwR b n most x).2.1) ((gwR b n most x).1))) :
    Calls Try.prog 7 #[.pointer (some ⟨P, 0, none⟩), .pointer (some ⟨Q, 0, none⟩), .agg #[.int .i64 kind, .int .u8 (op : Int), .int .i64 x, .int .i64 y, .int .i64 v, .string s]] w (SOut B P Q most w) := by
  have HM : Hid (∀ W, Below w.heap.size w W → Calls Try.prog 17 #[.pointer (some ⟨P, 0, none⟩), .int .i64 x] W (MOut P g most W (.int .i64 (gwR b n most x).2.1) ((gwR b n most x).2.2) ((gwR b n most x).1))) := fun W hW => mgrow_all P g n most x b h.nm W (h.mb.under hW)
  have HS : Hid (∀ W, Calls Try.prog 12 #[.int .i64 kind, .int .i64 7] W fun r w' => r = .returned (.int .i64 2) ∧ w' = W) := fun W => by
    have := step7 kind W
    rw [hk] at this
    exact this
  have HD' : Hid (type_of% HD) := HD
  have HN : Hid ((((gwR b n most x).2.2 : Nat) : Int) ≤ most) := gwR_le b n most x h.nm.1
  have hl1 := h.mb.lt
  have hl2 := h.dm.lt
  have HL : Hid (P < w.heap.size ∧ g < w.heap.size) := hl1
  have HL2 : Hid (Q < w.heap.size ∧ q < w.heap.size) := hl2
  have H : Hid (PD B w P Q most g n q b) := h
  have HB : Hid (B ≤ w.heap.size) := hB
  obtain ⟨c0, c1, c2, c3, c4, c5⟩ := bx6_of (heap_alloc_new w (.cells #[.int .i64 kind, .int .u8 (op : Int), .int .i64 x, .int .i64 y, .int .i64 v, .string s] 31))
  have HX : Hid ((w.alloc (.cells #[.int .i64 kind, .int .u8 (op : Int), .int .i64 x, .int .i64 y, .int .i64 v, .string s] 31)).heap[w.heap.size]? = some (.cells #[.int .i64 kind, .int .u8 (op : Int), .int .i64 x, .int .i64 y, .int .i64 v, .string s] 31 (0, 0))) := heap_alloc_new w _
  have HA : Hid (Below w.heap.size w (w.alloc (.cells #[.int .i64 kind, .int .u8 (op : Int), .int .i64 x, .int .i64 y, .int .i64 v, .string s] 31))) := (Below.refl _ _).alloc (Nat.le_refl _) _
  obtain ⟨z1, hz1⟩ : ∃ z1, z1 = (gwR b n most x).2.1 := ⟨_, rfl⟩
  obtain ⟨z2, hz2⟩ : ∃ z2, z2 = (gwR b n most x).1 := ⟨_, rfl⟩
  rw [← hz1, ← hz2] at HM HD'
  clear hz1 hz2
  clear h HD hl1 hl2 hB hk
  go_enter Try.func7, Try.ntmps7
  go_wp2_with (go_at_call 12; refine (HS.out _).mono ?_; rintro r w1 ⟨rfl, rfl⟩)
  go_region_held3 (fun w' => w'.cell? ⟨w.heap.size, 0, none⟩ = some (.int .i64 kind) ∧ w'.cell? ⟨w.heap.size, 1, none⟩ = some (.int .u8 (op : Int)) ∧ w'.cell? ⟨w.heap.size, 2, none⟩ = some (.int .i64 x) ∧ w'.cell? ⟨w.heap.size, 3, none⟩ = some (.int .i64 y) ∧ w'.cell? ⟨w.heap.size, 4, none⟩ = some (.int .i64 v) ∧ w'.cell? ⟨w.heap.size, 5, none⟩ = some (.string s))
    (first | exact ⟨e0, e1, e2, e3, e4, e5⟩ | exact ⟨d0, d1, d2, d3, d4, d5⟩ | exact ⟨c0, c1, c2, c3, c4, c5⟩ | go_keep)
    (first
      | (go_at_call 17; refine (HM.out _ (HA.out.drew)).mono ?_; rintro r w1 hm1; have hr1 := hm1.1; subst hr1; have HM1 : Hid (type_of% hm1) := hm1; have HX1 : Hid (type_of% (boxCh hm1 HL.out HX.out)) := boxCh hm1 HL.out HX.out; obtain ⟨d0, d1, d2, d3, d4, d5⟩ := bx6_of HX1.out; clear hm1 c0 c1 c2 c3 c4 c5)
      | (go_at_call 18; refine (HD'.out _ (H.out.mid HB.out (HA.out.drew) HM1.out (Below.refl _ _)).1 (H.out.mid HB.out (HA.out.drew) HM1.out (Below.refl _ _)).2).mono ?_; rintro r w2 hm2; have hr2 := hm2.1; subst hr2; have HM2 : Hid (type_of% hm2) := hm2; obtain ⟨e0, e1, e2, e3, e4, e5⟩ := bx6_of (boxChD hm2 HL2.out HX1.out); clear hm2 d0 d1 d2 d3 d4 d5))
  go_wp2
  go_ret
  exact ⟨rfl, H.out.pair HB.out (HA.out.drew) HM1.out (Below.refl _ _) HM2.out HN.out⟩
set_option maxHeartbeats 4000000 in
set_option maxRecDepth 1000000 in
theorem mstep4 (B P Q g n q : Nat) (most : Int) (b : List Int) (kind : Int) (op : Nat) (x y v : Int) (s : ByteArray) (hk : stpN kind = 4) (hx : x ≤ 9223372036854775807) (w : World) (hB : B ≤ w.heap.size) (h : PD B w P Q most g n q b)
    (HD : ∀ W, DM W Q q most b → Below B w W → Calls Try.prog 22 #[.pointer (some ⟨Q, 0, none⟩), .int .i64 x, .string s] W (DOut Q q most W (.int .i64 (puR b x s).2) ((puR b x s).1))) :
    Calls Try.prog 7 #[.pointer (some ⟨P, 0, none⟩), .pointer (some ⟨Q, 0, none⟩), .agg #[.int .i64 kind, .int .u8 (op : Int), .int .i64 x, .int .i64 y, .int .i64 v, .string s]] w (SOut B P Q most w) := by
  have HM : Hid (∀ W, Below w.heap.size w W → Calls Try.prog 21 #[.pointer (some ⟨P, 0, none⟩), .int .i64 x, .string s] W (MOut P g most W (.int .i64 (puR b x s).2) (n) ((puR b x s).1))) := fun W hW => mput_all P g n most b x s hx W (h.mb.under hW)
  have HS : Hid (∀ W, Calls Try.prog 12 #[.int .i64 kind, .int .i64 7] W fun r w' => r = .returned (.int .i64 4) ∧ w' = W) := fun W => by
    have := step7 kind W
    rw [hk] at this
    exact this
  have HD' : Hid (type_of% HD) := HD
  have HN : Hid (((n : Nat) : Int) ≤ most) := h.nm.1
  have hl1 := h.mb.lt
  have hl2 := h.dm.lt
  have HL : Hid (P < w.heap.size ∧ g < w.heap.size) := hl1
  have HL2 : Hid (Q < w.heap.size ∧ q < w.heap.size) := hl2
  have H : Hid (PD B w P Q most g n q b) := h
  have HB : Hid (B ≤ w.heap.size) := hB
  obtain ⟨c0, c1, c2, c3, c4, c5⟩ := bx6_of (heap_alloc_new w (.cells #[.int .i64 kind, .int .u8 (op : Int), .int .i64 x, .int .i64 y, .int .i64 v, .string s] 31))
  have HX : Hid ((w.alloc (.cells #[.int .i64 kind, .int .u8 (op : Int), .int .i64 x, .int .i64 y, .int .i64 v, .string s] 31)).heap[w.heap.size]? = some (.cells #[.int .i64 kind, .int .u8 (op : Int), .int .i64 x, .int .i64 y, .int .i64 v, .string s] 31 (0, 0))) := heap_alloc_new w _
  have HA : Hid (Below w.heap.size w (w.alloc (.cells #[.int .i64 kind, .int .u8 (op : Int), .int .i64 x, .int .i64 y, .int .i64 v, .string s] 31))) := (Below.refl _ _).alloc (Nat.le_refl _) _
  obtain ⟨z1, hz1⟩ : ∃ z1, z1 = (puR b x s).2 := ⟨_, rfl⟩
  obtain ⟨z2, hz2⟩ : ∃ z2, z2 = (puR b x s).1 := ⟨_, rfl⟩
  rw [← hz1, ← hz2] at HM HD'
  clear hz1 hz2
  clear h HD hl1 hl2 hB hk
  go_enter Try.func7, Try.ntmps7
  go_wp2_with (go_at_call 12; refine (HS.out _).mono ?_; rintro r w1 ⟨rfl, rfl⟩)
  go_region_held3 (fun w' => w'.cell? ⟨w.heap.size, 0, none⟩ = some (.int .i64 kind) ∧ w'.cell? ⟨w.heap.size, 1, none⟩ = some (.int .u8 (op : Int)) ∧ w'.cell? ⟨w.heap.size, 2, none⟩ = some (.int .i64 x) ∧ w'.cell? ⟨w.heap.size, 3, none⟩ = some (.int .i64 y) ∧ w'.cell? ⟨w.heap.size, 4, none⟩ = some (.int .i64 v) ∧ w'.cell? ⟨w.heap.size, 5, none⟩ = some (.string s))
    (first | exact ⟨e0, e1, e2, e3, e4, e5⟩ | exact ⟨d0, d1, d2, d3, d4, d5⟩ | exact ⟨c0, c1, c2, c3, c4, c5⟩ | go_keep)
    (first
      | (go_at_call 21; refine (HM.out _ (HA.out.drew)).mono ?_; rintro r w1 hm1; have hr1 := hm1.1; subst hr1; have HM1 : Hid (type_of% hm1) := hm1; have HX1 : Hid (type_of% (boxCh hm1 HL.out HX.out)) := boxCh hm1 HL.out HX.out; obtain ⟨d0, d1, d2, d3, d4, d5⟩ := bx6_of HX1.out; clear hm1 c0 c1 c2 c3 c4 c5)
      | (go_at_call 22; refine (HD'.out _ (H.out.mid HB.out (HA.out.drew) HM1.out (Below.refl _ _)).1 (H.out.mid HB.out (HA.out.drew) HM1.out (Below.refl _ _)).2).mono ?_; rintro r w2 hm2; have hr2 := hm2.1; subst hr2; have HM2 : Hid (type_of% hm2) := hm2; obtain ⟨e0, e1, e2, e3, e4, e5⟩ := bx6_of (boxChD hm2 HL2.out HX1.out); clear hm2 d0 d1 d2 d3 d4 d5))
  go_wp2
  go_ret
  exact ⟨rfl, H.out.pair HB.out (HA.out.drew) HM1.out (Below.refl _ _) HM2.out HN.out⟩
end Go.Proofs.Ytomiganjagjabaa
