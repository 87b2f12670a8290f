/-
  What the flat methods of the program's own blocks and choices do.
-/
import Derived.Test.YtmbficofcmfmlaaDoorNFlat1
import Derived.Deep.RegionHeld3
namespace Go.Proofs.YtmbficofcmfmlaaDoor
open Go.RowKit

theorem agg5 {w : World} {X : Nat} {c0 c1 c2 c3 c4 : Value} {t : TypeId} (h : w.heap[X]? = some (.cells #[c0, c1, c2, c3, c4] t (0, 0))) : w.cell? ⟨X, 0, none⟩ = some c0 ∧ w.cell? ⟨X, 1, none⟩ = some c1 ∧ w.cell? ⟨X, 2, none⟩ = some c2 ∧ w.cell? ⟨X, 3, none⟩ = some c3 ∧ w.cell? ⟨X, 4, none⟩ = some c4 := by
  simp [World.cell?, h]
theorem agg7 {w : World} {X : Nat} {c0 c1 c2 c3 c4 c5 c6 : Value} {t : TypeId} (h : w.heap[X]? = some (.cells #[c0, c1, c2, c3, c4, c5, c6] t (0, 0))) : w.cell? ⟨X, 5, none⟩ = some c5 ∧ w.cell? ⟨X, 6, none⟩ = some c6 := by
  simp [World.cell?, h]
set_option maxHeartbeats 8000000 in
set_option maxRecDepth 1000000 in
theorem front_core (B k cap : Nat) (o : Option Addr) (M : List InsD) (d : InsD) (o1 : Option Addr) (k1 cap1 : Nat) (LI : List V4) (w : World) (h : IR w B o k cap M) (hk : k ≤ 1000) (hB : B ≤ w.heap.size) (hd : OkT w d) (hn : d.n ≤ 16)
    (HFA : Hid (∀ (o' : Option Addr) (cap' : Nat) (M' : List InsD) w', FK w w' → Below B w w' → IR w' B o' (k + 1) cap' M' → Calls Tryd.prog 40 #[.slice o' (k + 1) cap', .slice o1 k1 cap1] w' fun r w'' => LP B w' (M'.map InsD.val ++ LI) r w'')) :
    Calls Tryd.prog 163 #[.agg #[.int .u8 d.op, .int .i64 d.A, .int .i64 d.B, .slice d.o d.n d.cap, .slice o1 k1 cap1], .slice o k cap] w fun r w' => LP B w (M.map InsD.val ++ d.val :: LI) r w' := by
  obtain ⟨i0, hi, hz0, hz1, hz2⟩ := info_parts Tryd.infoIns
  have HI : Hid (IR w B o k cap M) := h
  have HCP : Hid (∀ w', Below w.heap.size w w' → Calls Tryd.prog 86 #[.agg #[.int .u8 d.op, .int .i64 d.A, .int .i64 d.B, .slice d.o d.n d.cap]] w' fun r w'' => ∃ d' : InsD, r = .returned (.agg #[.int .u8 d'.op, .int .i64 d'.A, .int .i64 d'.B, .slice d'.o d'.n d'.cap]) ∧ d'.val = d.val ∧ d'.n = d.n ∧ OkT w'' d' ∧ Below w'.heap.size w' w'') := fun w' b => copied_any d hn w' (hd.1.below b)
  have HBX : Hid (Below w.heap.size w (w.alloc (.cells #[.int .u8 d.op, .int .i64 d.A, .int .i64 d.B, .slice d.o d.n d.cap, .slice o1 k1 cap1] 110)).drew) := ((Below.refl _ _).alloc (Nat.le_refl _) _).drew
  have HXX : Hid ((w.alloc (.cells #[.int .u8 d.op, .int .i64 d.A, .int .i64 d.B, .slice d.o d.n d.cap, .slice o1 k1 cap1] 110)).drew.heap[w.heap.size]? = some (.cells #[.int .u8 d.op, .int .i64 d.A, .int .i64 d.B, .slice d.o d.n d.cap, .slice o1 k1 cap1] 110 (0, 0))) := heap_alloc_new w _
  clear h hd
  go_enter Tryd.func163, Tryd.ntmps163
  go_wp2
  go_region_held3 (fun w' => w'.cell? ⟨w.heap.size, 0, none⟩ = some (.int .u8 d.op) ∧ w'.cell? ⟨w.heap.size, 1, none⟩ = some (.int .i64 d.A) ∧ w'.cell? ⟨w.heap.size, 2, none⟩ = some (.int .i64 d.B) ∧ w'.cell? ⟨w.heap.size, 3, none⟩ = some (.slice d.o d.n d.cap) ∧ w'.cell? ⟨w.heap.size, 4, none⟩ = some (.slice o1 k1 cap1))
    (first | go_keep | exact agg5 HXX.out | exact agg5 HX2.out | exact agg5 HX3.out | exact agg5 HX4.out)
    (first
      | (go_at_call 86; refine (HCP.out _ HBX.out).mono ?_; rintro r w2 ⟨d', rfl, hval, hnn, hok, b2⟩; clear hnn; have b02 : Below w.heap.size w w2 := HBX.out.trans (b2.mono HBX.out.size); have HI2 : Hid (IR w2 B o k cap M) := HI.out.under b02; have HB2 : Hid (Below w.heap.size w w2) := b02; have hs2 := b02.size; have HX2 : Hid (w2.heap[w.heap.size]? = some (.cells #[.int .u8 d.op, .int .i64 d.A, .int .i64 d.B, .slice d.o d.n d.cap, .slice o1 k1 cap1] 110 (0, 0))) := (b2.block _ (some_lt HXX.out)).trans HXX.out; have HOK : Hid (OkT w2 d') := hok; have HVL : Hid (d'.val = d.val) := hval; clear b2 b02 hok hval)
      | (refine step_append_lies _ (by rfl) _ _ _ (by rfl) B 52 i0 (.agg #[.int .u8 0, .int .i64 0, .int .i64 0, .slice none 0 0]) 4 48 Tryd.underlying22 hi hz0 hz1 hz2 rfl (by omega) (.slice o k cap) k (cellsOf M) (by rfl) (HI2.out.own.alloc _) ⟨w2.heap.size, 0, none⟩ 1 1 [.int .u8 d'.op, .int .i64 d'.A, .int .i64 d'.B, .slice d'.o d'.n d'.cap] (by rfl) (by rfl) (World.news_of_block (cs := #[.int .u8 d'.op, .int .i64 d'.A, .int .i64 d'.B, .slice d'.o d'.n d'.cap]) (t := 52) (fr := (0, 0)) (heap_alloc_new w2 _)) (by simp [Value.oneCell']) (by omega) (by unfold maxLen; omega) (by omega) (by simp; omega) (w2.heap.size + 1) (by simp) ?_; intro g capg w3 hown hgrow hat hlt; have bA : Below w2.heap.size w2 (w2.alloc (.cells #[.int .u8 d'.op, .int .i64 d'.A, .int .i64 d'.B, .slice d'.o d'.n d'.cap] 52)) := (Below.refl _ _).alloc (Nat.le_refl _) _; have hokA := HOK.out.fk (FK.of_below bA); have HI3 : Hid (IR w3 B (some ⟨g, 0, none⟩) (k + 1) capg (M ++ [d'])) := (HI2.out.under bA).app hokA.1 hokA.2 hown hgrow; have hf3 : FK w2 w3 := (FK.of_below bA).trans (FK.grown (HI2.out.under bA) hgrow); have HFK : Hid (FK w w3) := (FK.of_below HB2.out).trans hf3; have HX3 : Hid (w3.heap[w.heap.size]? = some (.cells #[.int .u8 d.op, .int .i64 d.A, .int .i64 d.B, .slice d.o d.n d.cap, .slice o1 k1 cap1] 110 (0, 0))) := (hf3.block _ _ _ _ HX2.out (by decide)).trans HX2.out; have HB4 : Hid (Below B w w3) := (HB2.out.mono hB).trans (((Below.refl _ _).alloc (by omega) _).grown hgrow (by simp; omega) (fun j hj => (HI2.out.own.lt j hj).1)); clear hown hgrow hat hlt bA hokA hf3)
      | (go_at_call 40; refine (HFA.out _ _ _ _ HFK.out HB4.out HI3.out).mono ?_; rintro r w4 ⟨o4, k4, cap4, M4, rfl, hI4, hM4, hF4, hB4⟩; have HX4 : Hid (w4.heap[w.heap.size]? = some (.cells #[.int .u8 d.op, .int .i64 d.A, .int .i64 d.B, .slice d.o d.n d.cap, .slice o1 k1 cap1] 110 (0, 0))) := (hF4.block _ _ _ _ HX3.out (by decide)).trans HX3.out; have HLP : Hid (IR w4 B o4 k4 cap4 M4 ∧ M4.map InsD.val = M.map InsD.val ++ d.val :: LI ∧ FK w w4 ∧ Below B w w4) := ⟨hI4, by rw [hM4, List.map_append, List.map_cons, List.map_nil, HVL.out, List.append_assoc]; rfl, HFK.out.trans hF4, HB4.out.trans hB4⟩; clear hI4 hM4 hF4 hB4))
  all_goals
    go_wp2
    go_ret
    exact ⟨o4, k4, cap4, M4, rfl, HLP.out.1, HLP.out.2.1, HLP.out.2.2.1, HLP.out.2.2.2⟩

end Go.Proofs.YtmbficofcmfmlaaDoor
