/-
  What the program's own nest.size does.
-/
import Derived.Test.YtmbficofcmfmlaaDoorNTree2
import Derived.Deep.RegionWith
namespace Go.Proofs.YtmbficofcmfmlaaDoor
open Go.RowKit

theorem ta_bbsize (v : Value) (W : World) : (Instr.typeAssert (.iface 110 v) 107 110 true).run Tryd.prog W = .ok (.tuple #[v, .bool true]) W := by kernel_rfl
theorem ta_sbsize (v : Value) (W : World) : (Instr.typeAssert (.iface 135 v) 107 110 true).run Tryd.prog W = .ok (.tuple #[.agg #[.int .u8 0, .int .i64 0, .int .i64 0, .slice none 0 0, .slice none 0 0], .bool false]) W := by kernel_rfl
theorem ta_cbsize (v : Value) (W : World) : (Instr.typeAssert (.iface 112 v) 107 110 true).run Tryd.prog W = .ok (.tuple #[.agg #[.int .u8 0, .int .i64 0, .int .i64 0, .slice none 0 0, .slice none 0 0], .bool false]) W := by kernel_rfl
theorem ta_scsize (v : Value) (W : World) : (Instr.typeAssert (.iface 135 v) 107 112 true).run Tryd.prog W = .ok (.tuple #[.agg #[.int .u8 0, .int .i64 0, .int .i64 0, .slice none 0 0, .slice none 0 0, .bool false, .slice none 0 0], .bool false]) W := by kernel_rfl
theorem ta_ccsize (v : Value) (W : World) : (Instr.typeAssert (.iface 112 v) 107 112 true).run Tryd.prog W = .ok (.tuple #[v, .bool true]) W := by kernel_rfl
theorem size_agg (X : Nat) (w : World) (c0 c1 c2 c3 c4 c5 c6 : Value) (t : TypeId) : (w.alloc (.cells #[c0, c1, c2, c3, c4, c5, c6] t)).cell? ⟨w.heap.size, 6, none⟩ = some c6 ∧ X = X := by
  simp
set_option maxHeartbeats 8000000 in
set_option maxRecDepth 1000000 in
theorem size_core (o : Option Addr) (k cap : Nat) (cs : List Value) (L : List V4) (dp sz V : Nat) (F : Nat → Prop) (w : World) (hr : RowP w F o k cap cs) (hp : PL w F cs L dp sz) (hV : sz = V) (hL : L.length ≤ 1000)
    (HI : Hid (∀ (o : Option Addr) (k cap : Nat) (cs : List Value) (L' : List V4) (dp sz : Nat) w', RowP w' F o k cap cs → PL w' F cs L' dp sz → L'.length < L.length → Calls Tryd.prog 42 #[.slice o k cap] w' fun r w'' => r = .returned (.int .i64 sz) ∧ Below w'.heap.size w' w'')) :
    Calls Tryd.prog 42 #[.slice o k cap] w fun r w' => r = .returned (.int .i64 V) ∧ Below w.heap.size w w' := by
  have hsz := hp.sizes
  have HR : Hid (RowP w F o k cap cs) := hr
  have hcl := hr.1
  have hcap := hr.2.1
  have hcm := hr.2.2.1
  unfold maxLen at hcm
  have HCL : Hid (cs.length = k) := hcl
  have HP0 : Hid (∃ Lr dr sr, PL w F (cs.drop 0) Lr dr sr ∧ Lr.length ≤ L.length ∧ 0 + sr = V) := ⟨L, dp, sz, by rw [List.drop_zero]; exact hp, Nat.le_refl _, by rw [Nat.zero_add]; exact hV⟩
  have hV2 : V ≤ 1000 := by omega
  have hk2 : k ≤ 1000 := by omega
  clear hr hp hsz hV hcl
  have tbb := ta_bbsize
  have tsb := ta_sbsize
  have tcb := ta_cbsize
  have tsc := ta_scsize
  have tcc := ta_ccsize
  go_enter Tryd.func42, Tryd.ntmps42
  go_wp2
  go_loopw [3, 10] (fun mv i wr => ∃ j most : Nat, mv = .int .i64 most ∧ i = .int .i64 j ∧ j ≤ k ∧ most ≤ 1000 ∧ Hid (∃ Lr dr sr, PL w F (cs.drop j) Lr dr sr ∧ Lr.length ≤ L.length ∧ most + sr = V) ∧ Hid (Below w.heap.size w wr)) (fun _ i _ => k - (intOf i).toNat)
  case atStart => exact ⟨0, 0, rfl, rfl, by omega, by omega, HP0, Below.refl _ _⟩
  case round =>
    obtain ⟨j, most, rfl, rfl, hj, hmost, HP, HB⟩ := hrel
    clear HP0
    obtain ⟨Lr, dr, sr, hpl, hlr, hrel⟩ := HP.out
    have hsw := HB.out.size
    by_cases hlt : j < k
    · have hjc : j < cs.length := by rw [HCL.out]; exact hlt
      rcases HR.out.2.2.2 with h0 | ⟨g, rfl, _, ⟨cur, f, hg⟩, hi⟩
      · omega
      have hcell : wr.cell? ⟨g, j, none⟩ = some cs[j] := by
        rw [HB.out.cell (p := ⟨g, j, none⟩) (some_lt hg), hi j hlt, List.getElem?_eq_getElem hjc]
      have hdr : cs.drop j = cs[j] :: cs.drop (j + 1) := List.drop_eq_getElem_cons hjc
      rw [hdr] at hpl
      clear hdr
      generalize cs[j] = c at hcell hpl
      have hsz := hpl.sizes
      have hki0 : (0 : Int) ≤ (j : Int) := by omega
      have hki1 : (j : Int) < (k : Int) := by omega
      clear hi hg HP hjc
      skip
      rcases hpl.inv with ⟨d, L', rfl, _, _, r, rfl⟩ | ⟨d, o1, k1, cap1, ci, LI, di, si, L', dp', sz', rfl, _, _, hr1, ri, r, rfl, rfl, rfl⟩ | ⟨d, o1, k1, cap1, ci, LI, di, si, els, o2, k2, cap2, c2, L2, d2, s2, L', dp', sz', rfl, _, _, hr1, ri, hr2, ri2, he, r, rfl, rfl, rfl⟩
      · have HP2 : Hid (∃ Lr dr sr, PL w F (cs.drop (j + 1)) Lr dr sr ∧ Lr.length ≤ L.length ∧ most + sr = V) := ⟨L', _, _, r, by simp at hlr; omega, hrel⟩
        clear r hpl hlr hrel hsz
        go_wp2
        go_roundw
        case rel => exact ⟨j + 1, most, rfl, by go_num, by omega, hmost, HP2, HB⟩
        case measure => simp [intOf]; omega
      · have hm2 : most + (1 + si) ≤ 1000 := by omega
        have hd2 : si ≤ 1000 := by have := ri.sizes; simp at hlr; omega
        have HP2 : Hid (∃ Lr dr sr, PL w F (cs.drop (j + 1)) Lr dr sr ∧ Lr.length ≤ L.length ∧ (most + (1 + si)) + sr = V) := ⟨L', _, _, r, by simp at hlr; omega, by omega⟩
        have HC : Hid (∀ w', Below w.heap.size w w' → Calls Tryd.prog 42 #[.slice o1 k1 cap1] w' fun r w'' => r = .returned (.int .i64 si) ∧ Below w'.heap.size w' w'') := fun w' b => HI.out o1 k1 cap1 ci LI di si w' (hr1.under b) (ri.under b) (by simp at hlr; omega)
        clear r hpl hlr hrel hsz ri hr1
        go_wp2_with fail
        refine (HC.out _ (HB.out.alloc hsw _)).mono ?_
        rintro r w2 ⟨rfl, b2⟩
        have HB2 : Hid (Below w.heap.size w w2) := (HB.out.alloc hsw _).trans (b2.mono (by simp; omega))
        clear b2 HB HC hcell
        go_wp2
        go_roundw
        case rel => exact ⟨j + 1, most + (1 + si), by go_num, by go_num, by omega, hm2, HP2, HB2⟩
        case measure => simp [intOf]; omega
      · have hln := els_len ri2 he
        have hm2 : most + (1 + si + s2) ≤ 1000 := by omega
        have hd2 : si ≤ 1000 := by have := ri.sizes; simp at hlr; omega
        have hd3 : s2 ≤ 1000 := by have := ri2.sizes; simp at hlr; omega
        have HP2 : Hid (∃ Lr dr sr, PL w F (cs.drop (j + 1)) Lr dr sr ∧ Lr.length ≤ L.length ∧ (most + (1 + si + s2)) + sr = V) := ⟨L', _, _, r, by simp at hlr; omega, by omega⟩
        have HC : Hid (∀ w', Below w.heap.size w w' → Calls Tryd.prog 42 #[.slice o1 k1 cap1] w' fun r w'' => r = .returned (.int .i64 si) ∧ Below w'.heap.size w' w'') := fun w' b => HI.out o1 k1 cap1 ci LI di si w' (hr1.under b) (ri.under b) (by simp at hlr; omega)
        have HC2 : Hid (∀ w', Below w.heap.size w w' → Calls Tryd.prog 42 #[.slice o2 k2 cap2] w' fun r w'' => r = .returned (.int .i64 s2) ∧ Below w'.heap.size w' w'') := fun w' b => HI.out o2 k2 cap2 c2 L2 d2 s2 w' (hr2.under b) (ri2.under b) (by simp at hlr; omega)
        have hx6 := (size_agg 0 wr (.int .u8 d.op) (.int .i64 d.A) (.int .i64 d.B) (.slice d.o d.n d.cap) (.slice o1 k1 cap1) (.bool els) (.slice o2 k2 cap2) 112).1
        have HX6 : Hid (type_of% hx6) := hx6
        have HBX : Hid (Below w.heap.size w (wr.alloc (.cells #[.int .u8 d.op, .int .i64 d.A, .int .i64 d.B, .slice d.o d.n d.cap, .slice o1 k1 cap1, .bool els, .slice o2 k2 cap2] 112)).drew) := (HB.out.alloc hsw _).drew
        have HXS : Hid ((wr.alloc (.cells #[.int .u8 d.op, .int .i64 d.A, .int .i64 d.B, .slice d.o d.n d.cap, .slice o1 k1 cap1, .bool els, .slice o2 k2 cap2] 112)).drew.heap.size = wr.heap.size + 1) := World.size_alloc _ _
        clear r hpl hlr hrel hsz ri hr1 ri2 hr2 he hln hx6
        go_wp2
        go_region_with (first
          | (go_at_call_of 42 (Value.slice o1 k1 cap1); refine (HC.out _ HBX.out).mono ?_; rintro r w2 ⟨rfl, b2⟩; have HB2 : Hid (Below w.heap.size w w2) := HBX.out.trans (b2.mono HBX.out.size); have c6 : w2.cell? ⟨wr.heap.size, 6, none⟩ = some (.slice o2 k2 cap2) := (b2.cell (p := ⟨wr.heap.size, 6, none⟩) (by rw [HXS.out]; exact Nat.lt_succ_self _)).trans HX6.out; clear b2)
          | (go_at_call_of 42 (Value.slice o2 k2 cap2); refine (HC2.out _ HB2.out).mono ?_; rintro r w3 ⟨rfl, b3⟩; have HB3 : Hid (Below w.heap.size w w3) := HB2.out.trans (b3.mono HB2.out.size); clear b3))
        all_goals
          go_wp2
          go_roundw
          case rel => exact ⟨j + 1, most + (1 + si + s2), by go_num, by go_num, by omega, hm2, HP2, HB3⟩
          case measure => simp [intOf]; omega
    · have hd : cs.drop j = [] := List.drop_eq_nil_of_le (by rw [HCL.out]; omega)
      rw [hd] at hpl
      obtain ⟨rfl, rfl, rfl⟩ := hpl.inv_nil
      have hmv : most = V := by omega
      subst hmv
      go_wp2
      go_ret
      exact ⟨rfl, HB.out⟩
/-- The program's own nest.size. -/
theorem size_any (F : Nat → Prop) : ∀ (m : Nat) (o : Option Addr) (k cap : Nat) (cs : List Value) (L : List V4) (dp sz : Nat) (w : World), L.length ≤ m → L.length ≤ 1000 → RowP w F o k cap cs → PL w F cs L dp sz →
    Calls Tryd.prog 42 #[.slice o k cap] w fun r w' => r = .returned (.int .i64 sz) ∧ Below w.heap.size w w'
  | 0, o, k, cap, cs, L, dp, sz, w, hm, hL, hr, hp => size_core o k cap cs L dp sz sz F w hr hp rfl hL (fun o k cap cs L' dp sz w' _ _ h => by omega)
  | m + 1, o, k, cap, cs, L, dp, sz, w, hm, hL, hr, hp => size_core o k cap cs L dp sz sz F w hr hp rfl hL (fun o k cap cs L' dp sz w' h1 h2 h => size_any F m o k cap cs L' dp sz w' (by omega) (by omega) h1 h2)

end Go.Proofs.YtmbficofcmfmlaaDoor
