/-
 The program's own enter.
 The program's own leave, out, along and leads.
 The program's own out, along, leads and effectOn.
-/
import Derived.Test.YtlfihndbnaaodaaGreatDoorIVD
import Derived.Test.YtlfihndbnaaodaaGreatDoorIRZ
set_option maxHeartbeats 8000000
set_option maxRecDepth 1000000
namespace Go.Proofs.YtlfihndbnaaodaaGreatDoor
open Go.RowKit
set_option linter.unusedVariables false
def ksOf (k : Int) : List Int := if k = 64 then [] else [k]
theorem vkindsOf (k : Int) (h0 : 0 ≤ k) (h1 : k ≤ 255) (w : World) :
  Calls Tryz.prog 138 #[.int .u8 k] w fun r w' => ∃ d : NumD, r = .returned (.slice d.o d.n d.cap) ∧ d.xs = ksOf k ∧ d.n ≤ 1 ∧ d.ok .u8 w' ∧ (d.n = 0 ∨ ∃ a : Addr, d.o = some a ∧ w.heap.size ≤ a.block) ∧ Below w.heap.size w w' := by
 by_cases hk : k = 64
 ·subst hk
  go_enter Tryz.func138, Tryz.ntmps138
  go_wp2
  go_ret
  exact ⟨⟨none, 0, 0, []⟩, rfl, rfl, by simp, ⟨by simp, Nat.zero_le _, rfl, fun _ => rfl, by simp, Or.inl rfl⟩, Or.inl rfl, Below.refl _ _⟩
 ·have hb : (k == 64) = false := by simp [hk]
  go_enter Tryz.func138, Tryz.ntmps138
  go_wp2
  go_ret
  refine ⟨⟨some ⟨w.heap.size, 0, none⟩, 1, 1, [k]⟩, rfl, by unfold ksOf; rw [if_neg hk], by simp, ⟨by simp, by unfold maxLen; simp, rfl, fun h => by simp at h, fun x hx => ?_, Or.inr ⟨_, rfl, by simp, fun i hi => ?_⟩⟩, Or.inr ⟨_, rfl, Nat.le_refl _⟩, (Below.refl _ _).alloc (Nat.le_refl _) _⟩
  ·obtain rfl : x = k := by simpa using hx
   exact wf_u8 h0 h1
  ·obtain rfl : i = 0 := by simp at hi; exact hi
   exact cell_one_new w (.int .u8 k) 69 0 _ rfl
theorem infoBlk : (Tryz.prog.info? 107).map (fun i => (i.zero, i.size, i.bytes)) = some (some (.agg #[.int .u8 0, .slice none 0 0, .int .i64 0, .bool false]), 4, 48) := by kernel_rfl
theorem TK.opened {w w3 : World} {N P : Nat} {M : Nat → Value} {so : Option Addr} {sc : Nat} {oo : Option Addr} {oc : Nat} {st : List Int} {ops : List BlkD} {b : BlkD} {bad : Bool} {g cap : Nat} (h : TK w N P M so sc oo oc st ops bad) (hbk : b.ks.ok .u8 w) (hbo : offRow P so oo b.ks)
  (hown : w3.ownsRow N 107 4 (.slice (some ⟨g, 0, none⟩) (ops.length + 1) cap) (ops.length + 1) (ops.flatMap BlkD.cells ++ b.cells)) (hgrow : w.grownBy w3 (Value.slice oo ops.length oc).ownBlock) (hat : (Value.slice oo ops.length oc).ownBlock = some g ∨ w.heap.size ≤ g) :
  w3.heap[P]? = some (.cells (trkC M (.slice so st.length sc) (.slice oo ops.length oc) (.bool bad)) 110 (0, 0)) ∧ TK (w3.setCell ⟨P, 13, none⟩ (.slice (some ⟨g, 0, none⟩) (ops.length + 1) cap)) N P M so sc (some ⟨g, 0, none⟩) cap st (ops ++ [b]) bad ∧ TF P so oo w so (some ⟨g, 0, none⟩) (w3.setCell ⟨P, 13, none⟩ (.slice (some ⟨g, 0, none⟩) (ops.length + 1) cap)) := by
 have hP3 : w3.heap[P]? = some (.cells (trkC M (.slice so st.length sc) (.slice oo ops.length oc) (.bool bad)) 110 (0, 0)) := by
  rw [hgrow.block P h.lt (fun e => h.opn_ne e.symm)]
  exact h.box
 have hc : Chg P w3 (w3.setCell ⟨P, 13, none⟩ (.slice (some ⟨g, 0, none⟩) (ops.length + 1) cap)) := Chg.set _ _ _ _
 have hgt : ∃ cur, w3.heap[g]? = some (.cells cur 107 (0, 0)) := (own_block hown g rfl).2
 have hgP : (Value.slice (some ⟨g, 0, none⟩) (ops.length + 1) cap).ownBlock ≠ some P := by
  intro e
  simp only [Value.ownBlock, Option.some.injEq] at e
  obtain ⟨cur, hg⟩ := hgt
  rw [e, hP3] at hg
  simp only [Option.some.injEq, Obj.cells.injEq] at hg
  exact absurd hg.2.1 (by decide)
 have hoK : w3.ownsRow N 69 1 (.slice so st.length sc) st.length (st.map (Value.int .u8)) := by
  refine h.stk.kept hgrow ?_
  rcases he : (Value.slice so st.length sc).ownBlock with _ | j
  ·exact Or.inl rfl
  ·refine Or.inr fun e => ?_
   obtain ⟨_, c1, h1⟩ := own_block h.stk j he
   obtain ⟨_, c2, h2⟩ := own_block h.opn j e.symm
   rw [h1] at h2
   simp only [Option.some.injEq, Obj.cells.injEq] at h2
   exact absurd h2.2.1 (by decide)
 have htf : TF P so oo w so (some ⟨g, 0, none⟩) (w3.setCell ⟨P, 13, none⟩ (.slice (some ⟨g, 0, none⟩) (ops.length + 1) cap)) := by
  refine ⟨hc.os.trans hgrow.os, hc.tape.trans hgrow.tape, hc.output.trans hgrow.output, Nat.le_trans hgrow.size hc.size, fun k h1 h2 h3 h4 => ?_, Or.inl rfl, ?_⟩
  ·rw [hc.block k (Nat.lt_of_lt_of_le h1 hgrow.size) h2, hgrow.block k h1 (fun e => ?_)]
   have := (own_block h.opn k e.symm).1
   exact h4 _ this rfl
  ·rcases hat with e | e
   ·exact Or.inl (own_block h.opn g e).1.symm
   ·exact Or.inr ⟨g, rfl, e⟩
 refine ⟨hP3, ⟨?_, own_chg hoK hc h.stk_ne, ?_, fun x hx => ?_, h.np⟩, htf⟩
 ·rw [List.length_append, List.length_singleton]
  simp [World.setCell, Array.getElem?_modify, hP3, trkC]
 ·rw [List.length_append, List.length_singleton, List.flatMap_append, show [b].flatMap BlkD.cells = b.cells by simp]
  exact own_chg hown hc hgP
 ·rw [List.mem_append, List.mem_singleton] at hx
  rcases hx with hx | rfl
  ·exact ⟨(h.kin x hx).1.tf htf (h.kin x hx).2, (h.kin x hx).2.tf (h.kin x hx).1 htf⟩
  ·exact ⟨hbk.tf htf hbo, hbo.tf hbk htf⟩
theorem venter (N P : Nat) (M : Nat → Value) (so : Option Addr) (sc : Nat) (oo : Option Addr) (oc : Nat) (st : List Int) (ops : List BlkD) (bad : Bool) (op k : Int) (h0 : 0 ≤ k) (h1 : k ≤ 255) (w : World) (h : TK w N P M so sc oo oc st ops bad) (hs : st.length ≤ 1099511627776) (ho : ops.length ≤ 1000) (hN : N ≤ w.heap.size) :
  Calls Tryz.prog 96 #[.pointer (some ⟨P, 0, none⟩), .int .u8 op, .int .u8 k] w fun r w' => r = .returned (.tuple #[]) ∧ ∃ d : NumD, d.xs = ksOf k ∧ d.n ≤ 1 ∧ (d.n = 0 ∨ ∃ a : Addr, d.o = some a ∧ w.heap.size ≤ a.block) ∧ ∃ g cap : Nat, TK w' N P M so sc (some ⟨g, 0, none⟩) cap st (ops ++ [⟨op, d, st.length, false⟩]) bad ∧ TF P so oo w so (some ⟨g, 0, none⟩) w' := by
 obtain ⟨i0, hi, hz0, hz1, hz2⟩ := info_parts infoBlk
 have HH : Hid (TK w N P M so sc oo oc st ops bad) := h
 have HK : Hid (0 ≤ k ∧ k ≤ 255 ∧ N ≤ w.heap.size) := ⟨h0, h1, hN⟩
 have c12 := h.c12
 have c13 := h.c13
 obtain ⟨s, hse⟩ : ∃ s, s = st.length := ⟨_, rfl⟩
 obtain ⟨no, hno⟩ : ∃ no, no = ops.length := ⟨_, rfl⟩
 have HSE : Hid (s = st.length ∧ no = ops.length) := ⟨hse, hno⟩
 rw [← hse] at c12 hs
 rw [← hno] at c13 ho
 clear h hse hno h0 h1 hN
 go_enter Tryz.func96, Tryz.ntmps96
 go_wp2_with fail
 refine wp_region_z (S := fun w' => w'.cell? ⟨P, 13, none⟩ = some (.slice oo no oc) ∧ w'.cell? ⟨P, 12, none⟩ = some (.slice so s sc)) (z := 18) (by kernel_rfl) ?_
 obtain ⟨z0, hz0'⟩ : ∃ z, z = World.drew w := ⟨_, rfl⟩
 have HB0 : Hid (Below w.heap.size w z0) := by unfold Hid; rw [hz0']; exact (Below.refl _ _).drew
 have HT0 : Hid (TK z0 N P M so sc oo oc st ops bad) := HH.out.below HB0.out
 have HS0 : Hid ((fun w' => w'.cell? ⟨P, 13, none⟩ = some (.slice oo no oc) ∧ w'.cell? ⟨P, 12, none⟩ = some (.slice so s sc)) z0) := by
  unfold Hid
  rw [hz0']
  exact ⟨c13, c12⟩
 have HCALL : Hid (type_of% (vkindsOf k HK.out.1 HK.out.2.1 z0)) := vkindsOf k HK.out.1 HK.out.2.1 z0
 rw [← hz0']
 clear hz0' c12 c13
 have hHeld : (fun w' => w'.cell? ⟨P, 13, none⟩ = some (.slice oo no oc) ∧ w'.cell? ⟨P, 12, none⟩ = some (.slice so s sc)) z0 := HS0.out
 refine wpZ_take (i := 0) (v := _) rfl (by kernel_rfl) (by kernel_rfl) (by kernel_rfl) (by kernel_rfl) (fun _ _ _ h => h) (Or.inl ⟨by rfl, by intro w' hSw; go_simp <;> with_reducible rfl⟩) hHeld ?_
 refine wpZ_take (i := 1) (v := _) rfl (by kernel_rfl) (by kernel_rfl) (by kernel_rfl) (by kernel_rfl) (fun _ _ _ h => h) (Or.inl ⟨by rfl, by intro w' hSw; go_simp <;> with_reducible rfl⟩) hHeld ?_
 refine wpZ_take (i := 2) (v := _) rfl (by kernel_rfl) (by kernel_rfl) (by kernel_rfl) (by kernel_rfl) (fun _ _ _ h => h) (Or.inl ⟨by rfl, by intro w' hSw; go_simp <;> with_reducible rfl⟩) hHeld ?_
 refine wpZ_take (i := 3) (v := _) rfl (by kernel_rfl) (by kernel_rfl) (by kernel_rfl) (by kernel_rfl) (fun _ _ _ h => h) (Or.inl ⟨by rfl, by intro w' hSw; go_simp <;> with_reducible rfl⟩) hHeld ?_
 refine wpZ_load (i := 4) [15, 16, 17, 18] (v := _) rfl (by kernel_rfl) (by kernel_rfl) (by kernel_rfl) (by kernel_rfl) (by kernel_rfl) (by kernel_rfl) (fun _ _ _ h => h) (Or.inl ⟨by rfl, by intro w' hSw; (try dsimp only at hSw); go_simp <;> with_reducible rfl⟩) hHeld ?_
 refine wpZ_take (i := 5) (v := _) rfl (by kernel_rfl) (by kernel_rfl) (by kernel_rfl) (by kernel_rfl) (fun _ _ _ h => h) (Or.inl ⟨by rfl, by intro w' hSw; go_simp <;> with_reducible rfl⟩) hHeld ?_
 refine wpZ_take (i := 6) (v := _) rfl (by kernel_rfl) (by kernel_rfl) (by kernel_rfl) (by kernel_rfl) (fun _ _ _ h => h) (Or.inl ⟨by rfl, by intro w' hSw; go_simp <;> with_reducible rfl⟩) hHeld ?_
 refine wpZ_take (i := 8) (v := _) rfl (by kernel_rfl) (by kernel_rfl) (by kernel_rfl) (by kernel_rfl) (fun _ _ _ h => h) (Or.inl ⟨by rfl, by intro w' hSw; go_simp <;> with_reducible rfl⟩) hHeld ?_
 refine wpZ_take (i := 9) (v := _) rfl (by kernel_rfl) (by kernel_rfl) (by kernel_rfl) (by kernel_rfl) (fun _ _ _ h => h) (Or.inl ⟨by rfl, by intro w' hSw; go_simp <;> with_reducible rfl⟩) hHeld ?_
 refine wpZ_take (i := 10) (v := _) rfl (by kernel_rfl) (by kernel_rfl) (by kernel_rfl) (by kernel_rfl) (fun _ _ _ h => h) (Or.inl ⟨by rfl, by intro w' hSw; go_simp <;> with_reducible rfl⟩) hHeld ?_
 refine wpZ_load (i := 11) [12, 13, 14, 15, 16, 17, 18] (v := _) rfl (by kernel_rfl) (by kernel_rfl) (by kernel_rfl) (by kernel_rfl) (by kernel_rfl) (by kernel_rfl) (fun _ _ _ h => h) (Or.inl ⟨by rfl, by intro w' hSw; (try dsimp only at hSw); go_simp <;> with_reducible rfl⟩) hHeld ?_
 refine wpZ_take (i := 12) (v := _) rfl (by kernel_rfl) (by kernel_rfl) (by kernel_rfl) (by kernel_rfl) (fun _ _ _ h => h) (Or.inl ⟨by rfl, by intro w' hSw; go_simp <;> with_reducible rfl⟩) hHeld ?_
 refine wpZ_call (i := 7) rfl (by kernel_rfl) rfl (by go_simp) HCALL.out ?_
 rintro r z1 ⟨d, rfl, hdx, hdn, hdok, hdfr, hdb⟩
 have HT1 : Hid (TK z1 N P M so sc oo oc st ops bad) := HT0.out.below hdb
 have HB1 : Hid (Below w.heap.size w z1) := HB0.out.trans (hdb.mono HB0.out.size)
 have HD : Hid (d.xs = ksOf k ∧ d.n ≤ 1 ∧ d.ok .u8 z1 ∧ (d.n = 0 ∨ ∃ a : Addr, d.o = some a ∧ z0.heap.size ≤ a.block)) := ⟨hdx, hdn, hdok, hdfr⟩
 have HS1 : Hid ((fun w' => w'.cell? ⟨P, 13, none⟩ = some (.slice oo no oc) ∧ w'.cell? ⟨P, 12, none⟩ = some (.slice so s sc)) z1) := by
  have a := HT1.out.c13
  have b := HT1.out.c12
  rw [← HSE.out.2] at a
  rw [← HSE.out.1] at b
  exact ⟨a, b⟩
 have HZ1 : Hid (z0.heap.size ≤ z1.heap.size) := hdb.size
 clear hHeld hdx hdn hdok hdfr hdb
 refine ⟨_, rfl, HS1.out, fun hHeld => wpZ_put ?_⟩
 refine wpZ_take (i := 13) (v := _) rfl (by kernel_rfl) (by kernel_rfl) (by kernel_rfl) (by kernel_rfl) (fun _ _ _ h => h) (Or.inl ⟨by rfl, by intro w' hSw; go_simp <;> with_reducible rfl⟩) hHeld ?_
 have bA : Below z1.heap.size z1 (z1.alloc (.cells #[.int .u8 op, .slice d.o d.n d.cap, .int .i64 (s : Int), .bool false] 107)) := (Below.refl _ _).alloc (Nat.le_refl _) _
 have HT2 : Hid (TK (z1.alloc (.cells #[.int .u8 op, .slice d.o d.n d.cap, .int .i64 (s : Int), .bool false] 107)) N P M so sc oo oc st ops bad) := HT1.out.below bA
 have HB2 : Hid (Below w.heap.size w (z1.alloc (.cells #[.int .u8 op, .slice d.o d.n d.cap, .int .i64 (s : Int), .bool false] 107))) := HB1.out.trans (bA.mono HB1.out.size)
 have HD2 : Hid (d.ok .u8 (z1.alloc (.cells #[.int .u8 op, .slice d.o d.n d.cap, .int .i64 (s : Int), .bool false] 107))) := HD.out.2.2.1.below bA
 have HS2 : Hid ((fun w' => w'.cell? ⟨P, 13, none⟩ = some (.slice oo no oc) ∧ w'.cell? ⟨P, 12, none⟩ = some (.slice so s sc)) (z1.alloc (.cells #[.int .u8 op, .slice d.o d.n d.cap, .int .i64 (s : Int), .bool false] 107))) := by
  have a := HT2.out.c13
  have b := HT2.out.c12
  rw [← HSE.out.2] at a
  rw [← HSE.out.1] at b
  exact ⟨a, b⟩
 clear bA
 refine wpZ_one (i := 14) rfl (by kernel_rfl) rfl (fun K R hK => ?_)
 go_simp
 refine hK.out _ _ HS2.out (fun hHeld => wpZ_put ?_)
 clear hK
 have HO : Hid (World.ownsRow (z1.alloc (.cells #[.int .u8 op, .slice d.o d.n d.cap, .int .i64 (s : Int), .bool false] 107)) N 107 4 (.slice oo no oc) no (ops.flatMap BlkD.cells)) := by
  have := HT2.out.opn
  rw [← HSE.out.2] at this
  exact this
 refine wpZ_one (i := 15) rfl (by kernel_rfl) rfl (fun K R hK => ?_)
 refine wp_append_lies _ (.tmp 10) (.tmp 20) 108 rfl N 107 i0 (.agg #[.int .u8 0, .slice none 0 0, .int .i64 0, .bool false]) 4 48 Tryz.underlying108 hi hz0 hz1 hz2 rfl (by omega) _ no (ops.flatMap BlkD.cells) rfl HO.out ⟨z1.heap.size, 0, none⟩ 1 1 [.int .u8 op, .slice d.o d.n d.cap, .int .i64 (s : Int), .bool false] rfl rfl (World.news_of_block (cs := #[.int .u8 op, .slice d.o d.n d.cap, .int .i64 (s : Int), .bool false]) (t := 107) (fr := (0, 0)) (heap_alloc_new z1 _)) (by simp [Value.oneCell']) (by omega) (by unfold maxLen; omega) (by omega) (Nat.le_trans HK.out.2.2 HB2.out.size) (z1.heap.size + 1) (by simp) ?_
 intro g capg z3 hown hgrow hat hlt3
 have hq := HT2.out.opened (w3 := z3) (b := ⟨op, d, s, false⟩) (g := g) (cap := capg) HD2.out (by
   rcases HD.out.2.2.2 with h0 | ⟨a, ha, hb⟩
   ·exact Or.inl h0
   ·refine Or.inr ⟨a, ha, ?_, fun q hq => ?_, fun q hq => ?_⟩
    ·have := HT0.out.lt; omega
    ·rcases HT0.out.stk.2 with ⟨h1, _⟩ | ⟨g', c, cur, h1, _, h3, _⟩
     ·simp only [Value.slice.injEq] at h1; rw [h1.1] at hq; cases hq
     ·simp only [Value.slice.injEq] at h1; rw [h1.1] at hq; cases hq; have := some_lt h3; show a.block ≠ g'; omega
    ·rcases HT0.out.opn.2 with ⟨h1, _⟩ | ⟨g', c, cur, h1, _, h3, _⟩
     ·simp only [Value.slice.injEq] at h1; rw [h1.1] at hq; cases hq
     ·simp only [Value.slice.injEq] at h1; rw [h1.1] at hq; cases hq; have := some_lt h3; show a.block ≠ g'; omega) (by rw [← HSE.out.2]; exact hown) (by rw [← HSE.out.2]; exact hgrow) (by
   rw [← HSE.out.2]
   rcases hat with e | e
   ·exact Or.inl e
   ·exact Or.inr (by rw [e]; simp))
 rw [← HSE.out.1, ← HSE.out.2] at hq
 obtain ⟨hq1, hq2, hq3⟩ := hq
 have HS3 : Hid ((fun w' => w'.cell? ⟨P, 13, none⟩ = some (.slice oo no oc) ∧ w'.cell? ⟨P, 12, none⟩ = some (.slice so s sc)) z3) := ⟨trk_cell hq1 13 rfl, trk_cell hq1 12 rfl⟩
 have hf13 := trk_thaw hq1 13
 have HQ : Hid (type_of% (And.intro hq2 hq3)) := ⟨hq2, hq3⟩
 clear hown hgrow hat hlt3 hq1 hq2 hq3
 refine hK.out _ _ HS3.out (fun hHeld => wpZ_put ?_)
 clear hK
 refine wpZ_take (i := 16) (v := _) rfl (by kernel_rfl) (by kernel_rfl) (by kernel_rfl) (by kernel_rfl) (fun _ _ _ h => h) (Or.inl ⟨by rfl, by intro w' hSw; go_simp <;> with_reducible rfl⟩) hHeld ?_
 refine wpZ_take (i := 17) (v := _) rfl (by kernel_rfl) (by kernel_rfl) (by kernel_rfl) (by kernel_rfl) (fun _ _ _ h => h) (Or.inl ⟨by rfl, by intro w' hSw; go_simp <;> with_reducible rfl⟩) hHeld ?_
 have k13 := HS3.out.1
 refine wpZ_last rfl (by kernel_rfl) (by kernel_rfl) (by kernel_rfl) rfl (fun K R hK => ?_)
 go_simp
 refine hK.out _ _ ?_
 clear hK K R hHeld
 go_wp2
 go_end0
 have HF : Hid (TF P so oo w so oo (z1.alloc (.cells #[.int .u8 op, .slice d.o d.n d.cap, .int .i64 (s : Int), .bool false] 107))) := TF.of_below _ _ HB2.out
 refine ⟨rfl, d, HD.out.1, HD.out.2.1, HD.out.2.2.2.imp id (fun ⟨a, h1, h2⟩ => ⟨a, h1, Nat.le_trans HB0.out.size h2⟩), g, ⟨capg, ?_⟩, HF.out.trans HQ.out.2⟩
 rw [← HSE.out.1]
 exact HQ.out.1
end Go.Proofs.YtlfihndbnaaodaaGreatDoor
namespace Go.Proofs.YtlfihndbnaaodaaGreatDoor
open Go.RowKit
set_option linter.unusedVariables false
theorem TK.close {w w' : World} {N P : Nat} {M : Nat → Value} {so : Option Addr} {sc : Nat} {oo : Option Addr} {oc : Nat} {st : List Int} {ops : List BlkD} {b : BlkD} {bad : Bool} (h : TK w N P M so sc oo oc st (ops ++ [b]) bad) (c : Chg P w w') (hb : w'.heap[P]? = some (.cells (trkC M (.slice so st.length sc) (.slice oo ops.length oc) (.bool bad)) 110 (0, 0))) : TK w' N P M so sc oo oc st ops bad := by
 refine ⟨hb, own_chg h.stk c h.stk_ne, ?_, fun x hx => ⟨(h.kin x (by simp [hx])).1.chg c (h.kin x (by simp [hx])).2.rec, (h.kin x (by simp [hx])).2⟩, h.np⟩
 have h2 := own_chg h.opn c h.opn_ne
 have hlen : ∀ L : List BlkD, (L.flatMap BlkD.cells).length = L.length * 4 := fun L => by
  rw [List.length_flatMap]
  have : (L.map fun a => a.cells.length) = List.replicate L.length 4 := List.eq_replicate_iff.2 ⟨by simp, fun x hx => by obtain ⟨y, _, rfl⟩ := List.mem_map.1 hx; rfl⟩
  rw [this, List.sum_replicate_nat]
 refine ⟨hlen ops, ?_⟩
 rcases h2.2 with ⟨h3, h4⟩ | ⟨g, cp, cur, h3, hbg, hg, h5, h6, h7, h8⟩
 ·simp at h4
 ·simp only [Value.slice.injEq] at h3
  obtain ⟨rfl, _, rfl⟩ := h3
  rw [List.length_append, List.length_singleton] at h5 h8
  refine Or.inr ⟨g, oc, cur, rfl, hbg, hg, by omega, h6, h7, ?_⟩
  have h9 := congrArg (List.take (ops.length * 4)) h8
  have e1 : List.take (ops.length * 4) (ops.flatMap BlkD.cells) = ops.flatMap BlkD.cells := List.take_of_length_le (by rw [hlen]; exact Nat.le_refl _)
  rw [List.take_take, List.flatMap_append, List.take_append_of_le_length (by rw [hlen]; exact Nat.le_refl _), e1, show min (ops.length * 4) ((ops.length + 1) * 4) = ops.length * 4 by omega] at h9
  exact h9
theorem vleave_other (N P : Nat) (M : Nat → Value) (so : Option Addr) (sc : Nat) (g oc : Nat) (st : List Int) (ops : List BlkD) (b : BlkD) (bad : Bool) (w : World) (h : TK w N P M so sc (some ⟨g, 0, none⟩) oc st (ops ++ [b]) bad) (hkn : b.ks.n ≤ 1000) (hs : st.length ≤ 1099511620000) (hb : b.base ≤ 1099511627776) (hop : b.op ≠ 4) (hoc : ops.length ≤ 100000) :
  Calls Tryz.prog 92 #[.pointer (some ⟨P, 0, none⟩)] w fun r w' => r = .returned (.tuple #[]) ∧ ∃ so' sc', TK w' N P M so' sc' (some ⟨g, 0, none⟩) oc ((finK st b bad).1 ++ b.ks.xs) ops ((finK st b bad).2 || !true) ∧ TF P so (some ⟨g, 0, none⟩) w so' (some ⟨g, 0, none⟩) w' := by
 have HF : Hid (type_of% (vfinish N P M so sc g oc st ops b bad w h hkn (by omega) hb)) := vfinish N P M so sc g oc st ops b bad w h hkn (by omega) hb
 have HN : Hid (N ≤ w.heap.size) := Nat.le_trans h.np (Nat.le_of_lt h.lt)
 have HL : Hid ((finK st b bad).1.length ≤ 1099511620000 ∧ b.ks.n ≤ 1000) := ⟨Nat.le_trans (tks_len b _ (st, bad)) hs, hkn⟩
 generalize finK st b bad = q at *
 obtain ⟨s2, b2⟩ := q
 dsimp only at *
 clear h
 have hopb : (b.op == 4) = false := by simp [hop]
 have hopc : (b.op != 4) = true := by simp [hop]
 go_enter Tryz.func92, Tryz.ntmps92
 go_wp2_with fail
 refine HF.out.mono ?_
 rintro r w1 ⟨rfl, h1, c1⟩
 have HI : Hid (type_of% (vinner N P M so sc g oc s2 ops b b2 w1 h1)) := vinner N P M so sc g oc s2 ops b b2 w1 h1
 have HT : Hid (type_of% h1) := h1
 have HC : Hid (type_of% c1) := c1
 clear h1 c1 HF
 go_wp2_with fail
 refine HI.out.mono ?_
 rintro r w1b ⟨rfl, n, rfl⟩
 have hT : TK (w1.drewN n) N P M so sc (some ⟨g, 0, none⟩) oc s2 (ops ++ [b]) b2 := HT.out.below (below_dN _)
 have HC1 : Hid (Chg P w (w1.drewN n)) := HC.out.trans (Chg.of_below (below_dN _))
 generalize w1.drewN n = w2 at hT HC1
 obtain ⟨g', hg, _, hgl, _, _, hcs⟩ := hT.inner
 cases hg
 have k0 : w2.cell? ⟨g, ops.length * 4, none⟩ = some (.int .u8 b.op) := hcs 0 (by omega)
 have k1 : w2.cell? ⟨g, ops.length * 4 + 1, none⟩ = some (.slice b.ks.o b.ks.n b.ks.cap) := hcs 1 (by omega)
 have HT2 : Hid (type_of% hT) := hT
 clear hcs hT HT HC HI hgl
 go_wp2_with fail
 refine (vneed N P M so sc _ oc s2 (ops ++ [b]) b2 true w2 HT2.out).mono ?_
 rintro r w3 ⟨rfl, h3, c3⟩
 have HT3 : Hid (type_of% h3) := h3
 have HC3 : Hid (Chg P w w3) := HC1.out.trans c3
 have c12 := h3.c12
 have c13 := h3.c13
 have f13 := trk_thaw h3.box 13
 obtain ⟨g', hg, _, hgl, hoc1, hoc2, hcs⟩ := h3.inner
 cases hg
 unfold maxLen at hoc2
 have m1 : w3.cell? ⟨g, ops.length * 4 + 1, none⟩ = some (.slice b.ks.o b.ks.n b.ks.cap) := hcs 1 (by omega)
 have HMk : Hid (w3.cell? ⟨g, ops.length * 4 + 1, none⟩ = some (.slice b.ks.o b.ks.n b.ks.cap) ∧ g < w3.heap.size) := ⟨m1, hgl⟩
 rw [List.length_append, List.length_singleton] at c13
 clear h3 c3 hcs k0 k1 m1 hgl HT2 HC1
 have hch : Chg P w3 (w3.setCell ⟨P, 13, none⟩ (.slice (some ⟨g, 0, none⟩) ops.length oc)) := Chg.set _ _ _ _
 have hT4 := HT3.out.close hch (by
  have := HT3.out.box
  simp [World.setCell, Array.getElem?_modify, this, trkC])
 have hgP : g ≠ P := fun e => HT3.out.opn_ne (by rw [e]; rfl)
 have hT5 : TK (w3.setCell ⟨P, 13, none⟩ (.slice (some ⟨g, 0, none⟩) ops.length oc)).drew N P M so sc (some ⟨g, 0, none⟩) oc s2 ops (b2 || !true) := hT4.below (Below.refl _ _).drew
 have HC5 : Hid (Chg P w (w3.setCell ⟨P, 13, none⟩ (.slice (some ⟨g, 0, none⟩) ops.length oc)).drew) := (HC3.out.trans hch).drew
 have m5 : (w3.setCell ⟨P, 13, none⟩ (.slice (some ⟨g, 0, none⟩) ops.length oc)).drew.cell? ⟨g, ops.length * 4 + 1, none⟩ = some (.slice b.ks.o b.ks.n b.ks.cap) := (hch.cell ⟨g, ops.length * 4 + 1, none⟩ HMk.out.2 hgP).trans HMk.out.1
 have hkb := HT3.out.kin b (by simp)
 have hd5 : b.ks.ok .u8 (w3.setCell ⟨P, 13, none⟩ (.slice (some ⟨g, 0, none⟩) ops.length oc)).drew := (hkb.1.chg hch hkb.2.rec).below (Below.refl _ _).drew
 have HG : Hid (type_of% (vgive N P M so sc (some ⟨g, 0, none⟩) oc s2 ops _ b.ks _ hT5 hd5 HL.out.2 HL.out.1 (Nat.le_trans HN.out HC5.out.size))) := vgive N P M so sc (some ⟨g, 0, none⟩) oc s2 ops _ b.ks _ hT5 hd5 HL.out.2 HL.out.1 (Nat.le_trans HN.out HC5.out.size)
 clear hT4 hT5 hch hkb hd5 HMk c12
 go_wp2
 go_region
 generalize (w3.setCell ⟨P, 13, none⟩ (.slice (some ⟨g, 0, none⟩) ops.length oc)).drew = w5 at *
 clear c13 f13
 go_wp2_with fail
 refine HG.out.mono ?_
 rintro r w6 ⟨rfl, so', sc', h6, f6⟩
 have HT6 : Hid (type_of% h6) := h6
 have HF6 : Hid (TF P so (some ⟨g, 0, none⟩) w so' (some ⟨g, 0, none⟩) w6) := (TF.chg _ _ HC5.out).trans f6
 clear h6 f6 HG
 go_wp2
 go_end0
 exact ⟨rfl, so', sc', HT6.out, HF6.out⟩
theorem vleave_if (N P : Nat) (M : Nat → Value) (so : Option Addr) (sc : Nat) (g oc : Nat) (st : List Int) (ops : List BlkD) (b : BlkD) (bad : Bool) (w : World) (h : TK w N P M so sc (some ⟨g, 0, none⟩) oc st (ops ++ [b]) bad) (hkn : b.ks.n ≤ 1000) (hs : st.length ≤ 1099511620000) (hb : b.base ≤ 1099511627776) (hop : b.op = 4) (hoc : ops.length ≤ 100000) :
  Calls Tryz.prog 92 #[.pointer (some ⟨P, 0, none⟩)] w fun r w' => r = .returned (.tuple #[]) ∧ ∃ so' sc', TK w' N P M so' sc' (some ⟨g, 0, none⟩) oc ((finK st b bad).1 ++ b.ks.xs) ops ((finK st b bad).2 || !((b.ks.n : Int) == 0)) ∧ TF P so (some ⟨g, 0, none⟩) w so' (some ⟨g, 0, none⟩) w' := by
 have HF : Hid (type_of% (vfinish N P M so sc g oc st ops b bad w h hkn (by omega) hb)) := vfinish N P M so sc g oc st ops b bad w h hkn (by omega) hb
 have HN : Hid (N ≤ w.heap.size) := Nat.le_trans h.np (Nat.le_of_lt h.lt)
 have HL : Hid ((finK st b bad).1.length ≤ 1099511620000 ∧ b.ks.n ≤ 1000) := ⟨Nat.le_trans (tks_len b _ (st, bad)) hs, hkn⟩
 generalize finK st b bad = q at *
 obtain ⟨s2, b2⟩ := q
 dsimp only at *
 clear h
 have hopb : (b.op == 4) = true := by simp [hop]
 have hopc : (b.op != 4) = false := by simp [hop]
 go_enter Tryz.func92, Tryz.ntmps92
 go_wp2_with fail
 refine HF.out.mono ?_
 rintro r w1 ⟨rfl, h1, c1⟩
 have HI : Hid (type_of% (vinner N P M so sc g oc s2 ops b b2 w1 h1)) := vinner N P M so sc g oc s2 ops b b2 w1 h1
 have HT : Hid (type_of% h1) := h1
 have HC : Hid (type_of% c1) := c1
 clear h1 c1 HF
 go_wp2_with fail
 refine HI.out.mono ?_
 rintro r w1b ⟨rfl, n, rfl⟩
 have hT : TK (w1.drewN n) N P M so sc (some ⟨g, 0, none⟩) oc s2 (ops ++ [b]) b2 := HT.out.below (below_dN _)
 have HC1 : Hid (Chg P w (w1.drewN n)) := HC.out.trans (Chg.of_below (below_dN _))
 generalize w1.drewN n = w2 at hT HC1
 obtain ⟨g', hg, _, hgl, _, _, hcs⟩ := hT.inner
 cases hg
 have k0 : w2.cell? ⟨g, ops.length * 4, none⟩ = some (.int .u8 b.op) := hcs 0 (by omega)
 have k1 : w2.cell? ⟨g, ops.length * 4 + 1, none⟩ = some (.slice b.ks.o b.ks.n b.ks.cap) := hcs 1 (by omega)
 have HT2 : Hid (type_of% hT) := hT
 clear hcs hT HT HC HI hgl
 go_wp2_with fail
 refine (vneed N P M so sc _ oc s2 (ops ++ [b]) b2 ((b.ks.n : Int) == 0) w2 HT2.out).mono ?_
 rintro r w3 ⟨rfl, h3, c3⟩
 have HT3 : Hid (type_of% h3) := h3
 have HC3 : Hid (Chg P w w3) := HC1.out.trans c3
 have c12 := h3.c12
 have c13 := h3.c13
 have f13 := trk_thaw h3.box 13
 obtain ⟨g', hg, _, hgl, hoc1, hoc2, hcs⟩ := h3.inner
 cases hg
 unfold maxLen at hoc2
 have m1 : w3.cell? ⟨g, ops.length * 4 + 1, none⟩ = some (.slice b.ks.o b.ks.n b.ks.cap) := hcs 1 (by omega)
 have HMk : Hid (w3.cell? ⟨g, ops.length * 4 + 1, none⟩ = some (.slice b.ks.o b.ks.n b.ks.cap) ∧ g < w3.heap.size) := ⟨m1, hgl⟩
 rw [List.length_append, List.length_singleton] at c13
 clear h3 c3 hcs k0 k1 m1 hgl HT2 HC1
 have hch : Chg P w3 (w3.setCell ⟨P, 13, none⟩ (.slice (some ⟨g, 0, none⟩) ops.length oc)) := Chg.set _ _ _ _
 have hT4 := HT3.out.close hch (by
  have := HT3.out.box
  simp [World.setCell, Array.getElem?_modify, this, trkC])
 have hgP : g ≠ P := fun e => HT3.out.opn_ne (by rw [e]; rfl)
 have hT5 : TK (w3.setCell ⟨P, 13, none⟩ (.slice (some ⟨g, 0, none⟩) ops.length oc)).drew N P M so sc (some ⟨g, 0, none⟩) oc s2 ops (b2 || !((b.ks.n : Int) == 0)) := hT4.below (Below.refl _ _).drew
 have HC5 : Hid (Chg P w (w3.setCell ⟨P, 13, none⟩ (.slice (some ⟨g, 0, none⟩) ops.length oc)).drew) := (HC3.out.trans hch).drew
 have m5 : (w3.setCell ⟨P, 13, none⟩ (.slice (some ⟨g, 0, none⟩) ops.length oc)).drew.cell? ⟨g, ops.length * 4 + 1, none⟩ = some (.slice b.ks.o b.ks.n b.ks.cap) := (hch.cell ⟨g, ops.length * 4 + 1, none⟩ HMk.out.2 hgP).trans HMk.out.1
 have hkb := HT3.out.kin b (by simp)
 have hd5 : b.ks.ok .u8 (w3.setCell ⟨P, 13, none⟩ (.slice (some ⟨g, 0, none⟩) ops.length oc)).drew := (hkb.1.chg hch hkb.2.rec).below (Below.refl _ _).drew
 have HG : Hid (type_of% (vgive N P M so sc (some ⟨g, 0, none⟩) oc s2 ops _ b.ks _ hT5 hd5 HL.out.2 HL.out.1 (Nat.le_trans HN.out HC5.out.size))) := vgive N P M so sc (some ⟨g, 0, none⟩) oc s2 ops _ b.ks _ hT5 hd5 HL.out.2 HL.out.1 (Nat.le_trans HN.out HC5.out.size)
 clear hT4 hT5 hch hkb hd5 HMk c12
 go_wp2
 go_region
 generalize (w3.setCell ⟨P, 13, none⟩ (.slice (some ⟨g, 0, none⟩) ops.length oc)).drew = w5 at *
 clear c13 f13
 go_wp2_with fail
 refine HG.out.mono ?_
 rintro r w6 ⟨rfl, so', sc', h6, f6⟩
 have HT6 : Hid (type_of% h6) := h6
 have HF6 : Hid (TF P so (some ⟨g, 0, none⟩) w so' (some ⟨g, 0, none⟩) w6) := (TF.chg _ _ HC5.out).trans f6
 clear h6 f6 HG
 go_wp2
 go_end0
 exact ⟨rfl, so', sc', HT6.out, HF6.out⟩
end Go.Proofs.YtlfihndbnaaodaaGreatDoor
namespace Go.Proofs.YtlfihndbnaaodaaGreatDoor
open Go.RowKit
set_option linter.unusedVariables false
def nilN : NumD := ⟨none, 0, 0, []⟩
theorem nilN_ok (w : World) : nilN.ok .u8 w := ⟨Nat.le_refl _, Nat.zero_le _, rfl, fun _ => rfl, fun x hx => (by cases hx), Or.inl rfl⟩
def BlkD.along (b : BlkD) : NumD := if b.op = 3 then nilN else b.ks
theorem valong (b : BlkD) (w : World) : Calls Tryz.prog 86 #[.agg #[.int .u8 b.op, .slice b.ks.o b.ks.n b.ks.cap, .int .i64 (b.base : Int), .bool b.dead]] w fun r w' => r = .returned (.slice b.along.o b.along.n b.along.cap) ∧ Below w.heap.size w w' := by
 unfold BlkD.along
 have HB : Hid (Below w.heap.size w (w.alloc (.cells #[.int .u8 b.op, .slice b.ks.o b.ks.n b.ks.cap, .int .i64 (b.base : Int), .bool b.dead] 107))) := (Below.refl _ _).alloc (Nat.le_refl _) _
 by_cases h : b.op = 3
 ·rw [if_pos h]
  have hb : (b.op == 3) = true := by simp [h]
  have HB' := HB.out
  clear HB
  have HB : Hid (type_of% HB') := HB'
  clear HB' h
  go_enter Tryz.func86, Tryz.ntmps86
  go_wp2
  go_ret
  exact ⟨rfl, HB.out⟩
 ·rw [if_neg h]
  have hb : (b.op == 3) = false := by simp [h]
  clear h
  go_enter Tryz.func86, Tryz.ntmps86
  go_wp2
  go_ret
  exact ⟨rfl, HB.out⟩
theorem TK.blk {w : World} {N P : Nat} {M : Nat → Value} {so : Option Addr} {sc : Nat} {oo : Option Addr} {oc : Nat} {st : List Int} {ops : List BlkD} {bad : Bool} (h : TK w N P M so sc oo oc st ops bad) (i : Nat) (hi : i < ops.length) : ∃ g, oo = some ⟨g, 0, none⟩ ∧ N ≤ g ∧ g < w.heap.size ∧ ops.length ≤ oc ∧ oc ≤ maxLen ∧ ∀ r, r < 4 → w.cell? ⟨g, i * 4 + r, none⟩ = (ops[i]).cells[r]? := by
 have ho := h.opn
 obtain ⟨g, c, hv, hb, hg⟩ := ho.form (by omega)
 simp only [Value.slice.injEq] at hv
 obtain ⟨rfl, _, rfl⟩ := hv
 have hc : ops.length ≤ oc ∧ oc ≤ maxLen := by
  rcases ho.2 with ⟨h1, _⟩ | ⟨g', c, cur, h1, _, _, h2, h3, _⟩
  ·simp at h1
  ·simp only [Value.slice.injEq] at h1
   omega
 refine ⟨g, rfl, hb, hg, hc.1, hc.2, fun r hr => ?_⟩
 rw [ho.cellAt (i * 4 + r) (by omega)]
 exact flat_at BlkD.cells 4 (fun _ => rfl) ops i r hi hr
theorem infoBlk2 : (Tryz.prog.info? 107).map (·.size) = some (4 : Nat) := by kernel_rfl
theorem vout (N P : Nat) (M : Nat → Value) (so : Option Addr) (sc : Nat) (oo : Option Addr) (oc : Nat) (st : List Int) (ops : List BlkD) (bad : Bool) (fa : Int) (w : World) (h : TK w N P M so sc oo oc st ops bad) (i : Nat) (hi : i < ops.length) (hf : fa = (ops.length : Int) - 1 - (i : Int)) :
  Calls Tryz.prog 85 #[.pointer (some ⟨P, 0, none⟩), .int .i64 fa] w fun r w' => r = .returned (.agg #[.int .u8 (ops[i]).op, .slice (ops[i]).ks.o (ops[i]).ks.n (ops[i]).ks.cap, .int .i64 ((ops[i]).base : Int), .bool (ops[i]).dead]) ∧ Below w.heap.size w w' := by
 have hb1 : Below w.heap.size w (w.alloc (.cells #[.int .u8 0, .slice none 0 0, .int .i64 0, .bool false] 107)) := (Below.refl _ _).alloc (Nat.le_refl _) _
 have h1 := h.below hb1
 obtain ⟨g, hg, _, _, hc1, hc2, hcs⟩ := h1.blk i hi
 have c13 := h1.c13
 subst hg
 unfold maxLen at hc2
 generalize ops[i] = b at *
 have e0 : (w.alloc (.cells #[.int .u8 0, .slice none 0 0, .int .i64 0, .bool false] 107)).cell? ⟨g, i * 4, none⟩ = some (.int .u8 b.op) := hcs 0 (by omega)
 have e1 : (w.alloc (.cells #[.int .u8 0, .slice none 0 0, .int .i64 0, .bool false] 107)).cell? ⟨g, i * 4 + 1, none⟩ = some (.slice b.ks.o b.ks.n b.ks.cap) := hcs 1 (by omega)
 have e2 : (w.alloc (.cells #[.int .u8 0, .slice none 0 0, .int .i64 0, .bool false] 107)).cell? ⟨g, i * 4 + 2, none⟩ = some (.int .i64 (b.base : Int)) := hcs 2 (by omega)
 have e3 : (w.alloc (.cells #[.int .u8 0, .slice none 0 0, .int .i64 0, .bool false] 107)).cell? ⟨g, i * 4 + 3, none⟩ = some (.bool b.dead) := hcs 3 (by omega)
 generalize ops.length = n at *
 have hx : (n : Int) - 1 - fa = (i : Int) := by omega
 have hx0 : (0 : Int) ≤ (i : Int) := by omega
 have hx1 : (i : Int) < (n : Int) := by omega
 have HB : Hid (type_of% hb1) := hb1
 clear h h1 hcs hb1 hf
 go_enter Tryz.func85, Tryz.ntmps85
 go_wp2
 go_region
 go_wp2
 have hrow : (w.alloc (.cells #[.int .u8 b.op, .slice b.ks.o b.ks.n b.ks.cap, .int .i64 (b.base : Int), .bool b.dead] 107)).drew.heap[w.heap.size]? = some (.cells #[.int .u8 b.op, .slice b.ks.o b.ks.n b.ks.cap, .int .i64 (b.base : Int), .bool b.dead] 107 (0, 0)) := new_block _ _
 refine bodyPost_ret (results_cell_row rfl _ _ w.heap.size 107 #[.int .u8 b.op, .slice b.ks.o b.ks.n b.ks.cap, .int .i64 (b.base : Int), .bool b.dead] (0, 0) _ rfl hrow Tryz.underlying107 rfl infoBlk2) rfl ?_
 exact ⟨rfl, ((Below.refl _ _).alloc (Nat.le_refl _) _).drew⟩
theorem vleads (N P : Nat) (M : Nat → Value) (so : Option Addr) (sc : Nat) (oo : Option Addr) (oc : Nat) (st : List Int) (ops : List BlkD) (bad : Bool) (fa : Int) (w : World) (h : TK w N P M so sc oo oc st ops bad) :
  Calls Tryz.prog 77 #[.pointer (some ⟨P, 0, none⟩), .int .i64 fa] w fun r w' => r = .returned (.bool (decide (fa < (ops.length : Int)))) ∧ w' = w := by
 have c13 := h.c13
 clear h
 generalize ops.length = n at *
 go_enter Tryz.func77, Tryz.ntmps77
 go_wp2
 go_ret
 exact ⟨rfl, rfl⟩
def onT (k op : Int) : List Int := if op = 32 ∨ op = 35 then [] else [k]
def onG (k op : Int) : List Int := if op = 32 ∨ op = 35 ∨ op = 34 then [k] else []
def newN (w w' : World) (d : NumD) (xs : List Int) : Prop := d.xs = xs ∧ d.ok .u8 w' ∧ (d.n = 0 ∨ ∃ a : Addr, d.o = some a ∧ w.heap.size ≤ a.block)
theorem newN_nil (w w' : World) : newN w w' nilN [] := ⟨rfl, nilN_ok _, Or.inl rfl⟩
theorem newN_one (w : World) (k : Int) (h0 : 0 ≤ k) (h1 : k ≤ 255) : newN w (w.alloc (.cells #[.int .u8 k] 69)) ⟨some ⟨w.heap.size, 0, none⟩, 1, 1, [k]⟩ [k] := by
 refine ⟨rfl, ⟨by simp, by unfold maxLen; simp, rfl, fun h => by simp at h, fun x hx => ?_, Or.inr ⟨_, rfl, by simp, fun i hi => ?_⟩⟩, Or.inr ⟨_, rfl, Nat.le_refl _⟩⟩
 ·obtain rfl : x = k := by simpa using hx
  exact wf_u8 h0 h1
 ·obtain rfl : i = 0 := by simp at hi; exact hi
  exact cell_one_new w (.int .u8 k) 69 0 _ rfl
theorem newN.off {w w' : World} {N P : Nat} {M : Nat → Value} {so : Option Addr} {sc : Nat} {oo : Option Addr} {oc : Nat} {st : List Int} {ops : List BlkD} {bad : Bool} (h : TK w N P M so sc oo oc st ops bad) {d : NumD} {xs : List Int} (hd : newN w w' d xs) : offRow P so oo d := by
 rcases hd.2.2 with h0 | ⟨a, ha, hb⟩
 ·exact Or.inl h0
 ·refine Or.inr ⟨a, ha, ?_, fun q hq => ?_, fun q hq => ?_⟩
  ·have := h.lt; omega
  ·rcases h.stk.2 with ⟨h1, _⟩ | ⟨g', c, cur, h1, _, h3, _⟩
   ·simp only [Value.slice.injEq] at h1; rw [h1.1] at hq; cases hq
   ·simp only [Value.slice.injEq] at h1; rw [h1.1] at hq; cases hq; have := some_lt h3; show a.block ≠ g'; omega
  ·rcases h.opn.2 with ⟨h1, _⟩ | ⟨g', c, cur, h1, _, h3, _⟩
   ·simp only [Value.slice.injEq] at h1; rw [h1.1] at hq; cases hq
   ·simp only [Value.slice.injEq] at h1; rw [h1.1] at hq; cases hq; have := some_lt h3; show a.block ≠ g'; omega
theorem veffectOn (k op : Int) (h0 : 0 ≤ k) (h1 : k ≤ 255) (w : World) :
  Calls Tryz.prog 135 #[.int .u8 k, .int .u8 op] w fun r w' => ∃ d1 d2 : NumD, r = .returned (.tuple #[.slice d1.o d1.n d1.cap, .slice d2.o d2.n d2.cap]) ∧ newN w w' d1 (onT k op) ∧ newN w w' d2 (onG k op) ∧ d1.n ≤ 1 ∧ d2.n ≤ 1 ∧ Below w.heap.size w w' := by
 have HO : Hid (newN w (w.alloc (.cells #[.int .u8 k] 69)) ⟨some ⟨w.heap.size, 0, none⟩, 1, 1, [k]⟩ [k]) := newN_one w k h0 h1
 have HB : Hid (Below w.heap.size w (w.alloc (.cells #[.int .u8 k] 69))) := (Below.refl _ _).alloc (Nat.le_refl _) _
 unfold onT onG
 by_cases ha : op = 32
 ·subst ha
  go_enter Tryz.func135, Tryz.ntmps135
  go_wp2
  refine bodyPost_ret (results_tmp2 rfl _ _ _) rfl ?_
  exact ⟨nilN, _, rfl, by simpa using newN_nil w _, by simpa using HO.out, by simp [nilN], by simp, HB.out⟩
 ·by_cases hb : op = 35
  ·subst hb
   go_enter Tryz.func135, Tryz.ntmps135
   go_wp2
   refine bodyPost_ret (results_tmp2 rfl _ _ _) rfl ?_
   exact ⟨nilN, _, rfl, by simpa using newN_nil w _, by simpa using HO.out, by simp [nilN], by simp, HB.out⟩
  ·by_cases hc : op = 34
   ·subst hc
    go_enter Tryz.func135, Tryz.ntmps135
    go_wp2
    refine bodyPost_ret (results_tmp2 rfl _ _ _) rfl ?_
    exact ⟨_, _, rfl, by simpa using HO.out, by simpa using HO.out, by simp, by simp, HB.out⟩
   ·have ba : (op == 32) = false := by simp [ha]
    have bb : (op == 35) = false := by simp [hb]
    have bc : (op == 34) = false := by simp [hc]
    rw [if_neg (by omega), if_neg (by omega)]
    go_enter Tryz.func135, Tryz.ntmps135
    go_wp2
    refine bodyPost_ret (results_tmp2 rfl _ _ _) rfl ?_
    exact ⟨_, nilN, rfl, HO.out, newN_nil w _, by simp, by simp [nilN], HB.out⟩
end Go.Proofs.YtlfihndbnaaodaaGreatDoor
