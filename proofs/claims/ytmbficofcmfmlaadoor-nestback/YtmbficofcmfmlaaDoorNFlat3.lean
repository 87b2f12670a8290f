/-
  What the flat methods of the program's own blocks and choices do, and nest.flatAll.
-/
import Derived.Test.YtmbficofcmfmlaaDoorNFlat2
namespace Go.Proofs.YtmbficofcmfmlaaDoor
open Go.RowKit

theorem LP.len {B : Nat} {w w' : World} {V : List V4} {r : Ending} {o' : Option Addr} {k' cap' : Nat} {M' : List InsD} (_hr : r = .returned (.slice o' k' cap')) (h : IR w' B o' k' cap' M') (hv : M'.map InsD.val = V) (_hw : w = w) : k' = V.length := by
  rw [← h.len, ← hv, List.length_map]
set_option maxHeartbeats 8000000 in
set_option maxRecDepth 1000000 in
theorem block_core (B k cap : Nat) (o : Option Addr) (M : List InsD) (d : InsD) (o1 : Option Addr) (k1 cap1 : Nat) (LI : List V4) (w : World) (hk : k + LI.length ≤ 900) (hB : B ≤ w.heap.size) (hM : M.length = k)
    (HFR : Hid (∀ w', Below w.heap.size w w' → Calls Tryd.prog 163 #[.agg #[.int .u8 d.op, .int .i64 d.A, .int .i64 d.B, .slice d.o d.n d.cap, .slice o1 k1 cap1], .slice o k cap] w' fun r w'' => LP B w' (M.map InsD.val ++ d.val :: LI) r w'')) :
    Calls Tryd.prog 162 #[.agg #[.int .u8 d.op, .int .i64 d.A, .int .i64 d.B, .slice d.o d.n d.cap, .slice o1 k1 cap1], .slice o k cap] w fun r w' => LP B w (M.map InsD.val ++ d.val :: (LI ++ [endV])) r w' := by
  have bX : Below w.heap.size w (w.alloc (.cells #[.int .u8 d.op, .int .i64 d.A, .int .i64 d.B, .slice d.o d.n d.cap, .slice o1 k1 cap1] 110)) := (Below.refl _ _).alloc (Nat.le_refl _) _
  have HBX : Hid (type_of% bX) := bX
  clear bX
  go_enter Tryd.func162, Tryd.ntmps162
  go_wp2_with fail
  refine (HFR.out _ HBX.out).mono ?_
  rintro r w2 ⟨o2, k2, cap2, M2, rfl, hI2, hM2, hF2, hB2⟩
  have hk2 : k2 ≤ 1000 := by
    rw [← hI2.len, ← List.length_map (f := InsD.val), hM2]
    simp
    omega
  have hs2 : B ≤ w2.heap.size := Nat.le_trans hB (Nat.le_trans HBX.out.size hF2.size)
  have HCL := closed_any B k2 cap2 o2 M2 w2 hI2 hk2 hs2
  have HCM : Hid (type_of% HCL) := HCL
  have HF : Hid (FK w w2) := (FK.of_below HBX.out).trans hF2
  have HB : Hid (Below B w w2) := (HBX.out.mono hB).trans hB2
  have HMV : Hid (type_of% hM2) := hM2
  clear HCL hI2 hM2 hF2 hB2
  go_wp2_with fail
  refine HCM.out.mono ?_
  rintro r w3 ⟨o3, k3, cap3, M3, rfl, hI3, hM3, hF3, hB3⟩
  go_wp2
  go_ret
  exact ⟨o3, k3, cap3, M3, rfl, hI3, by rw [hM3, HMV.out]; simp, HF.out.trans hF3, HB.out.trans hB3⟩
set_option maxHeartbeats 8000000 in
set_option maxRecDepth 1000000 in
theorem choice_core0 (B k cap : Nat) (o : Option Addr) (M : List InsD) (d : InsD) (o1 : Option Addr) (k1 cap1 : Nat) (LI : List V4) (o9 : Option Addr) (k9 cap9 : Nat) (w : World) (hk : k + LI.length ≤ 900) (hB : B ≤ w.heap.size) (hM : M.length = k)
    (HFR : Hid (∀ w', Below w.heap.size w w' → Calls Tryd.prog 163 #[.agg #[.int .u8 d.op, .int .i64 d.A, .int .i64 d.B, .slice d.o d.n d.cap, .slice o1 k1 cap1], .slice o k cap] w' fun r w'' => LP B w' (M.map InsD.val ++ d.val :: LI) r w'')) :
    Calls Tryd.prog 164 #[.agg #[.int .u8 d.op, .int .i64 d.A, .int .i64 d.B, .slice d.o d.n d.cap, .slice o1 k1 cap1, .bool false, .slice o9 k9 cap9], .slice o k cap] w fun r w' => LP B w (M.map InsD.val ++ d.val :: (LI ++ [endV])) r w' := by
  have bX : Below w.heap.size w (w.alloc (.cells #[.int .u8 d.op, .int .i64 d.A, .int .i64 d.B, .slice d.o d.n d.cap, .slice o1 k1 cap1, .bool false, .slice o9 k9 cap9] 112)) := (Below.refl _ _).alloc (Nat.le_refl _) _
  have HBX : Hid (type_of% bX) := bX
  have HXX : Hid ((w.alloc (.cells #[.int .u8 d.op, .int .i64 d.A, .int .i64 d.B, .slice d.o d.n d.cap, .slice o1 k1 cap1, .bool false, .slice o9 k9 cap9] 112)).heap[w.heap.size]? = some (.cells #[.int .u8 d.op, .int .i64 d.A, .int .i64 d.B, .slice d.o d.n d.cap, .slice o1 k1 cap1, .bool false, .slice o9 k9 cap9] 112 (0, 0))) := heap_alloc_new w _
  clear bX
  go_enter Tryd.func164, Tryd.ntmps164
  go_wp2_with fail
  refine (HFR.out _ HBX.out).mono ?_
  rintro r w2 ⟨o2, k2, cap2, M2, rfl, hI2, hM2, hF2, hB2⟩
  have hk2 : k2 ≤ 1000 := by
    rw [← hI2.len, ← List.length_map (f := InsD.val), hM2]
    simp
    omega
  have hs2 : B ≤ w2.heap.size := Nat.le_trans hB (Nat.le_trans HBX.out.size hF2.size)
  obtain ⟨x5, x6⟩ := agg7 ((hF2.block _ _ _ _ HXX.out (by decide)).trans HXX.out)
  have HCL := closed_any B k2 cap2 o2 M2 w2 hI2 hk2 hs2
  have HCM : Hid (type_of% HCL) := HCL
  have HF : Hid (FK w w2) := (FK.of_below HBX.out).trans hF2
  have HB : Hid (Below B w w2) := (HBX.out.mono hB).trans hB2
  have HMV : Hid (type_of% hM2) := hM2
  clear HCL hI2 hM2 hF2 hB2
  go_wp2_with fail
  refine HCM.out.mono ?_
  rintro r w3 ⟨o3, k3, cap3, M3, rfl, hI3, hM3, hF3, hB3⟩
  go_wp2
  go_ret
  exact ⟨o3, k3, cap3, M3, rfl, hI3, by rw [hM3, HMV.out]; simp, HF.out.trans hF3, HB.out.trans hB3⟩
set_option maxHeartbeats 8000000 in
set_option maxRecDepth 1000000 in
theorem choice_core1 (B k cap : Nat) (o : Option Addr) (M : List InsD) (d : InsD) (o1 : Option Addr) (k1 cap1 : Nat) (LI : List V4) (o9 : Option Addr) (k9 cap9 : Nat) (L9 : List V4) (w : World) (hk : k + LI.length + L9.length ≤ 900) (hB : B ≤ w.heap.size) (hM : M.length = k)
    (HFR : Hid (∀ w', Below w.heap.size w w' → Calls Tryd.prog 163 #[.agg #[.int .u8 d.op, .int .i64 d.A, .int .i64 d.B, .slice d.o d.n d.cap, .slice o1 k1 cap1], .slice o k cap] w' fun r w'' => LP B w' (M.map InsD.val ++ d.val :: LI) r w''))
    (HFA : Hid (∀ (o' : Option Addr) (k' cap' : Nat) (M' : List InsD) w', FK w w' → Below B w w' → IR w' B o' k' cap' M' → k' = k + LI.length + 2 → Calls Tryd.prog 40 #[.slice o' k' cap', .slice o9 k9 cap9] w' fun r w'' => LP B w' (M'.map InsD.val ++ L9) r w'')) :
    Calls Tryd.prog 164 #[.agg #[.int .u8 d.op, .int .i64 d.A, .int .i64 d.B, .slice d.o d.n d.cap, .slice o1 k1 cap1, .bool true, .slice o9 k9 cap9], .slice o k cap] w fun r w' => LP B w (M.map InsD.val ++ d.val :: (LI ++ (elseV :: L9 ++ [endV]))) r w' := by
  obtain ⟨i0, hi, hz0, hz1, hz2⟩ := info_parts Tryd.infoIns
  have bX : Below w.heap.size w (w.alloc (.cells #[.int .u8 d.op, .int .i64 d.A, .int .i64 d.B, .slice d.o d.n d.cap, .slice o1 k1 cap1, .bool true, .slice o9 k9 cap9] 112)) := (Below.refl _ _).alloc (Nat.le_refl _) _
  have HBX : Hid (type_of% bX) := bX
  have HXX : Hid ((w.alloc (.cells #[.int .u8 d.op, .int .i64 d.A, .int .i64 d.B, .slice d.o d.n d.cap, .slice o1 k1 cap1, .bool true, .slice o9 k9 cap9] 112)).heap[w.heap.size]? = some (.cells #[.int .u8 d.op, .int .i64 d.A, .int .i64 d.B, .slice d.o d.n d.cap, .slice o1 k1 cap1, .bool true, .slice o9 k9 cap9] 112 (0, 0))) := heap_alloc_new w _
  clear bX
  go_enter Tryd.func164, Tryd.ntmps164
  go_wp2_with fail
  refine (HFR.out _ HBX.out).mono ?_
  rintro r w2 ⟨o2, k2, cap2, M2, rfl, hI2, hM2, hF2, hB2⟩
  have HK2 : Hid (k2 = k + LI.length + 1) := by
    unfold Hid
    rw [← hI2.len, ← List.length_map (f := InsD.val), hM2]
    simp
    omega
  have hk2 : k2 ≤ 901 := by rw [HK2.out]; omega
  have hs2 : B ≤ w2.heap.size := Nat.le_trans hB (Nat.le_trans HBX.out.size hF2.size)
  have HX2 : Hid (w2.heap[w.heap.size]? = some (.cells #[.int .u8 d.op, .int .i64 d.A, .int .i64 d.B, .slice d.o d.n d.cap, .slice o1 k1 cap1, .bool true, .slice o9 k9 cap9] 112 (0, 0))) := (hF2.block _ _ _ _ HXX.out (by decide)).trans HXX.out
  obtain ⟨x5, x6⟩ := agg7 HX2.out
  have bA : Below w2.heap.size w2 (w2.alloc (.cells #[.int .u8 5, .int .i64 0, .int .i64 0, .slice none 0 0] 52)).drew := ((Below.refl _ _).alloc (Nat.le_refl _) _).drew
  have HIA : Hid (IR (w2.alloc (.cells #[.int .u8 5, .int .i64 0, .int .i64 0, .slice none 0 0] 52)).drew B o2 k2 cap2 M2) := hI2.under bA
  have HNB : Hid ((w2.alloc (.cells #[.int .u8 5, .int .i64 0, .int .i64 0, .slice none 0 0] 52)).drew.heap[w2.heap.size]? = some (.cells #[.int .u8 5, .int .i64 0, .int .i64 0, .slice none 0 0] 52 (0, 0))) := heap_alloc_new w2 _
  have HFA2 : Hid (FK w (w2.alloc (.cells #[.int .u8 5, .int .i64 0, .int .i64 0, .slice none 0 0] 52)).drew) := ((FK.of_below HBX.out).trans hF2).trans (FK.of_below bA)
  have HBA : Hid (Below B w (w2.alloc (.cells #[.int .u8 5, .int .i64 0, .int .i64 0, .slice none 0 0] 52)).drew) := ((HBX.out.mono hB).trans hB2).trans (bA.mono hs2)
  have HXA : Hid ((w2.alloc (.cells #[.int .u8 5, .int .i64 0, .int .i64 0, .slice none 0 0] 52)).drew.heap[w.heap.size]? = some (.cells #[.int .u8 d.op, .int .i64 d.A, .int .i64 d.B, .slice d.o d.n d.cap, .slice o1 k1 cap1, .bool true, .slice o9 k9 cap9] 112 (0, 0))) := (bA.block _ (some_lt HX2.out)).trans HX2.out
  have HSA : Hid (B ≤ (w2.alloc (.cells #[.int .u8 5, .int .i64 0, .int .i64 0, .slice none 0 0] 52)).drew.heap.size) := Nat.le_trans hs2 bA.size
  have HMV : Hid (type_of% hM2) := hM2
  clear hI2 hM2 hF2 hB2 HFR bA
  go_wp2
  go_region_held3 (fun w' => w'.cell? ⟨w.heap.size, 6, none⟩ = some (.slice o9 k9 cap9))
    (first | go_keep | exact (agg7 HX2.out).2 | exact (agg7 HXA.out).2 | exact (agg7 HX3.out).2 | exact (agg7 HX4.out).2)
    (first
      | (refine step_append_lies _ (by rfl) _ _ _ (by rfl) B 52 i0 (.agg #[.int .u8 0, .int .i64 0, .int .i64 0, .slice none 0 0]) 4 48 Tryd.underlying22 hi hz0 hz1 hz2 rfl (by omega) (.slice o2 k2 cap2) k2 (cellsOf M2) (by rfl) HIA.out.own ⟨w2.heap.size, 0, none⟩ 1 1 [.int .u8 5, .int .i64 0, .int .i64 0, .slice none 0 0] (by rfl) (by rfl) (World.news_of_block (cs := #[.int .u8 5, .int .i64 0, .int .i64 0, .slice none 0 0]) (t := 52) (fr := (0, 0)) HNB.out) (by simp [Value.oneCell']) (by omega) (by unfold maxLen; omega) (by omega) HSA.out _ rfl ?_; intro g capg w3 hown hgrow hat hlt; have HI3 : Hid (IR w3 B (some ⟨g, 0, none⟩) (k2 + 1) capg (M2 ++ [opD 5])) := HIA.out.app (opD_ok 5 (by omega) (by omega) _) (fun h0 => absurd h0 (by simp [opD])) hown hgrow; have hf3 : FK (w2.alloc (.cells #[.int .u8 5, .int .i64 0, .int .i64 0, .slice none 0 0] 52)).drew w3 := FK.grown HIA.out hgrow; have HFK : Hid (FK w w3) := HFA2.out.trans hf3; have HX3 : Hid (w3.heap[w.heap.size]? = some (.cells #[.int .u8 d.op, .int .i64 d.A, .int .i64 d.B, .slice d.o d.n d.cap, .slice o1 k1 cap1, .bool true, .slice o9 k9 cap9] 112 (0, 0))) := (hf3.block _ _ _ _ HXA.out (by decide)).trans HXA.out; have HB4 : Hid (Below B w w3) := HBA.out.grown hgrow HSA.out (fun j hj => (HIA.out.own.lt j hj).1); clear hown hgrow hat hlt hf3)
      | (go_at_call 40; refine (HFA.out _ _ _ _ _ HFK.out HB4.out HI3.out (by rw [HK2.out])).mono ?_; rintro r w4 ⟨o4, k4, cap4, M4, rfl, hI4, hM4, hF4, hB4⟩; have HX4 : Hid (w4.heap[w.heap.size]? = some (.cells #[.int .u8 d.op, .int .i64 d.A, .int .i64 d.B, .slice d.o d.n d.cap, .slice o1 k1 cap1, .bool true, .slice o9 k9 cap9] 112 (0, 0))) := (hF4.block _ _ _ _ HX3.out (by decide)).trans HX3.out; have HLP : Hid (IR w4 B o4 k4 cap4 M4 ∧ M4.map InsD.val = M.map InsD.val ++ d.val :: (LI ++ elseV :: L9) ∧ FK w w4 ∧ Below B w w4) := ⟨hI4, by rw [hM4, List.map_append, HMV.out]; simp; rfl, HFK.out.trans hF4, HB4.out.trans hB4⟩; clear hI4 hM4 hF4 hB4))
  all_goals
    have hk4 : k4 ≤ 1000 := by
      rw [← HLP.out.1.len, ← List.length_map (f := InsD.val), HLP.out.2.1]
      simp
      omega
    have HCL := closed_any B k4 cap4 o4 M4 w4 HLP.out.1 hk4 (Nat.le_trans hB HLP.out.2.2.1.size)
    have HCM : Hid (type_of% HCL) := HCL
    clear HCL
    go_wp2_with fail
    refine HCM.out.mono ?_
    rintro r w5 ⟨o5, k5, cap5, M5, rfl, hI5, hM5, hF5, hB5⟩
    go_wp2
    go_ret
    exact ⟨o5, k5, cap5, M5, rfl, hI5, by rw [hM5, HLP.out.2.1]; simp, HLP.out.2.2.1.trans hF5, HLP.out.2.2.2.trans hB5⟩

end Go.Proofs.YtmbficofcmfmlaaDoor
