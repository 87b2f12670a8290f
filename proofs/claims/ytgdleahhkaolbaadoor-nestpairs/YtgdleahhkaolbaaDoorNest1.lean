/-
  What the small methods of a nesting do.
-/
import Derived.Test.YtgdleahhkaolbaaDoorInsV2
import Derived.WalkSmall
import Derived.OneCell
import Derived.Laws.OwnMore
import Derived.Deep.AppendLies
namespace Go.Proofs.YtgdleahhkaolbaaDoor
open Go.RowKit

theorem Tryd.infoU8 : (Tryd.prog.info? 5).map (fun i => (i.zero, i.size, i.bytes)) = some (some (.int .u8 0), 1, 1) := by kernel_rfl
/-- The nesting at P: what opened the blocks that are open, and whether the body has ended; its memory lies from block B on. -/
def NS (w : World) (B P : Nat) (bs : List Int) (ended : Bool) : Prop :=
  ∃ o cap, w.heap[P]? = some (.cells #[.slice o bs.length cap, .bool ended] 106 (0, 0)) ∧ w.ownsRow B 5 1 (.slice o bs.length cap) bs.length (bs.map (Value.int .u8)) ∧ (∀ g, o = some g → g.block ≠ P) ∧ B ≤ P
theorem NS.lt {w : World} {B P : Nat} {bs : List Int} {e : Bool} (h : NS w B P bs e) : P < w.heap.size := by
  obtain ⟨o, cap, h, _⟩ := h
  exact (Array.getElem?_eq_some_iff.1 h).1
theorem own8_under {w1 w2 : World} {base k : Nat} {v : Value} {xs : List Value} (h : w1.ownsRow base 5 1 v k xs) (b : Below w1.heap.size w1 w2) : w2.ownsRow base 5 1 v k xs :=
  h.kept (row := none) ⟨b.os, b.tape, b.output, b.size, fun k hk _ => b.block k hk⟩ (by cases hv : v.ownBlock <;> simp)
theorem NS.under {w w' : World} {B P : Nat} {bs : List Int} {e : Bool} (h : NS w B P bs e) (b : Below w.heap.size w w') : NS w' B P bs e := by
  have hl := h.lt
  obtain ⟨o, cap, h1, h2, h3⟩ := h
  exact ⟨o, cap, by rw [b.block P hl, h1], own8_under h2 b, h3⟩
theorem own_cap {w : World} {base e k cap : Nat} {o : Option Addr} {xs : List Value} (h : w.ownsRow base e 1 (.slice o k cap) k xs) : k ≤ cap ∧ cap ≤ 9223372036854775807 := by
  rcases h.2 with ⟨h1, h2⟩ | ⟨g, c, cur, h1, _, _, h2, h3, _⟩
  · simp only [Value.slice.injEq] at h1
    omega
  · simp only [Value.slice.injEq] at h1
    unfold maxLen at h3
    omega
theorem ns_cells {w : World} {P : Nat} {c0 c1 : Value} {t : TypeId} (h : w.heap[P]? = some (.cells #[c0, c1] t (0, 0))) : w.cell? ⟨P, 0, none⟩ = some c0 ∧ w.cell? ⟨P, 1, none⟩ = some c1 ∧ w.frozen? ⟨P, 0, none⟩ = false ∧ w.frozen? ⟨P, 1, none⟩ = false := by
  simp [World.cell?, World.frozen?, h]
theorem ns_set0 {w : World} {P : Nat} {c0 c1 : Value} {t : TypeId} (h : w.heap[P]? = some (.cells #[c0, c1] t (0, 0))) (v : Value) : (w.setCell ⟨P, 0, none⟩ v).heap[P]? = some (.cells #[v, c1] t (0, 0)) := by
  simp [World.setCell, Array.getElem?_modify, h]
theorem ns_set1 {w : World} {P : Nat} {c0 c1 : Value} {t : TypeId} (h : w.heap[P]? = some (.cells #[c0, c1] t (0, 0))) (v : Value) : (w.setCell ⟨P, 1, none⟩ v).heap[P]? = some (.cells #[c0, v] t (0, 0)) := by
  simp [World.setCell, Array.getElem?_modify, h]
theorem far_ne {o : Option Addr} {P k cap : Nat} (h : ∀ g, o = some g → g.block ≠ P) : (Value.slice o k cap).ownBlock ≠ some P := by
  cases o with
  | none => simp [Value.ownBlock]
  | some g => simpa [Value.ownBlock] using h g rfl
set_option maxHeartbeats 2000000 in
set_option maxRecDepth 1000000 in
theorem enter_full (P B : Nat) (bs : List Int) (e : Bool) (op : Int) (w : World) (h : NS w B P bs e) (_hl : bs.length = 12) :
    Calls Tryd.prog 100 #[.pointer (some ⟨P, 0, none⟩), .int .u8 op] w fun r w' => r = .returned (.int .i64 7) ∧ w' = w := by
  obtain ⟨o, cap, h1, h2, _⟩ := h
  obtain ⟨c0, c1, _, _⟩ := ns_cells h1
  rw [_hl] at c0
  clear h1 h2
  go_enter Tryd.func100, Tryd.ntmps100
  go_wp2
  go_ret
  exact ⟨rfl, rfl⟩
set_option maxHeartbeats 2000000 in
set_option maxRecDepth 1000000 in
theorem enter_ok (P B : Nat) (bs : List Int) (e : Bool) (op : Int) (w : World) (h : NS w B P bs e) (hl : bs.length < 12) (hB : B ≤ w.heap.size) :
    Calls Tryd.prog 100 #[.pointer (some ⟨P, 0, none⟩), .int .u8 op] w fun r w' => r = .returned (.int .i64 0) ∧ NS w' B P (bs ++ [op]) e ∧ Below B w w' := by
  obtain ⟨i0, hi, hz0, hz1, hz2⟩ := info_parts Tryd.infoU8
  have hPw := h.lt
  obtain ⟨o, cap, h1, h2, hfar, hBP⟩ := h
  obtain ⟨c0, c1, f0, _⟩ := ns_cells h1
  have HF := far_ne (k := bs.length) (cap := cap) hfar
  have hne : ((bs.length : Int) == 12) = false := by rw [beq_eq_false_iff_ne]; omega
  obtain ⟨k, hk⟩ : ∃ k, bs.length = k := ⟨_, rfl⟩
  rw [hk] at c0 h2 HF hl hne h1
  have HK : Hid (bs.length = k) := hk
  have H1 : Hid (type_of% h1) := h1
  have HFr : Hid (∀ g, o = some g → g.block ≠ P) := hfar
  clear hk h1 hfar
  go_enter Tryd.func100, Tryd.ntmps100
  go_wp2_with (at_builtin; refine wpList_append_lies _ rfl _ _ 97 rfl B 5 i0 (.int .u8 0) 1 1 Tryd.underlying97 hi hz0 hz1 hz2 rfl (by omega) _ k (bs.map (Value.int .u8)) rfl (h2.alloc _) ⟨w.heap.size, 0, none⟩ 1 1 [.int .u8 op] rfl rfl (World.news_of_block (cs := #[.int .u8 op]) (t := 5) (fr := (0, 0)) (heap_alloc_new w _)) (by simp [Value.oneCell']) (by omega) (by unfold maxLen; omega) (by omega) (by simp; omega) (w.heap.size + 1) (by simp) ?_)
  intro g capg w1 hown hgrow hat hlt
  have hgP : g ≠ P := by
    rcases hat with e | e
    · rw [e] at HF
      simpa using HF
    · omega
  have hp1 : w1.heap[P]? = some (.cells #[.slice o k cap, .bool e] 106 (0, 0)) := by
    rw [hgrow.block P (by simp; omega) (Ne.symm HF), Below.heap_alloc _ _ _ hPw]
    exact H1.out
  obtain ⟨d0, d1, g0, _⟩ := ns_cells hp1
  have HP2 : Hid (type_of% (ns_set0 hp1 (.slice (some ⟨g, 0, none⟩) (k + 1) capg))) := ns_set0 hp1 _
  have HO2 : Hid ((w1.setCell ⟨P, 0, none⟩ (.slice (some ⟨g, 0, none⟩) (k + 1) capg)).ownsRow B 5 1 (.slice (some ⟨g, 0, none⟩) (k + 1) capg) (k + 1) ((bs ++ [op]).map (Value.int .u8))) := by
    unfold Hid
    rw [List.map_append]
    exact ownsRow_setCell_other hown (by simp [Value.ownBlock]; exact hgP) _
  have HB2 : Hid (Below B w (w1.setCell ⟨P, 0, none⟩ (.slice (some ⟨g, 0, none⟩) (k + 1) capg))) := ((((Below.refl _ _).alloc hB _).grown hgrow (by simp; omega) (fun j hj => (h2.lt j hj).1))).setCell hBP _
  clear hown hgrow hat hlt hp1 h2 HF
  go_wp2
  go_ret
  refine ⟨rfl, ⟨some ⟨g, 0, none⟩, capg, ?_, ?_, fun a ha => by cases ha; exact hgP, hBP⟩, HB2.out⟩
  · rw [List.length_append, HK.out]; exact HP2.out
  · rw [List.length_append, HK.out]; exact HO2.out
set_option maxHeartbeats 2000000 in
set_option maxRecDepth 1000000 in
theorem turn_nil (P B : Nat) (e : Bool) (w : World) (h : NS w B P [] e) :
    Calls Tryd.prog 101 #[.pointer (some ⟨P, 0, none⟩)] w fun r w' => r = .returned (.int .i64 4) ∧ w' = w := by
  obtain ⟨o, cap, h1, _, _⟩ := h
  obtain ⟨c0, c1, _, _⟩ := ns_cells h1
  rw [List.length_nil] at c0
  clear h1
  go_enter Tryd.func101, Tryd.ntmps101
  go_wp2
  go_ret
  exact ⟨rfl, rfl⟩
theorem NS.last {w : World} {B P : Nat} {ini : List Int} {x : Int} {e : Bool} (h : NS w B P (ini ++ [x]) e) :
    ∃ g cap, w.heap[P]? = some (.cells #[.slice (some ⟨g, 0, none⟩) (ini.length + 1) cap, .bool e] 106 (0, 0)) ∧ w.ownsRow B 5 1 (.slice (some ⟨g, 0, none⟩) (ini.length + 1) cap) (ini.length + 1) (ini.map (Value.int .u8) ++ [.int .u8 x]) ∧ g ≠ P ∧ B ≤ P ∧ B ≤ g := by
  obtain ⟨o, cap, h1, h2, h3, h4⟩ := h
  have hl : (ini ++ [x]).length = ini.length + 1 := by simp
  rw [hl] at h1 h2
  rw [List.map_append] at h2
  obtain ⟨g, c, hv, hb, _⟩ := h2.form (by omega)
  simp only [Value.slice.injEq] at hv
  obtain ⟨rfl, _, rfl⟩ := hv
  exact ⟨g, cap, h1, h2, h3 _ rfl, h4, hb⟩
set_option maxHeartbeats 2000000 in
set_option maxRecDepth 1000000 in
theorem turn_bad (P B : Nat) (ini : List Int) (x : Int) (hx : x ≠ 4) (hl : ini.length < 1000) (e : Bool) (w : World) (h : NS w B P (ini ++ [x]) e) :
    Calls Tryd.prog 101 #[.pointer (some ⟨P, 0, none⟩)] w fun r w' => r = .returned (.int .i64 4) ∧ w' = w := by
  obtain ⟨g, cap, h1, h2, hgP, _, _⟩ := h.last
  obtain ⟨c0, c1, _, _⟩ := ns_cells h1
  have hc := h2.cellAt ini.length (by omega)
  rw [List.getElem?_append_right (by simp), List.length_map, Nat.sub_self] at hc
  have hc' : w.cell? ⟨g, ini.length, none⟩ = some (.int .u8 x) := hc
  have hxb : (x == 4) = false := by rw [beq_eq_false_iff_ne]; exact hx
  have hxn : (x != 4) = true := by rw [bne, hxb]; rfl
  obtain ⟨hcp, hcm⟩ := own_cap h2
  generalize ini.length = k at c0 hc' hl hcp
  clear h1 h2 h hc hx
  go_enter Tryd.func101, Tryd.ntmps101
  go_wp2
  go_ret
  exact ⟨rfl, rfl⟩
set_option maxHeartbeats 2000000 in
set_option maxRecDepth 1000000 in
theorem turn_ok (P B : Nat) (ini : List Int) (hl : ini.length < 1000) (e : Bool) (w : World) (h : NS w B P (ini ++ [4]) e) :
    Calls Tryd.prog 101 #[.pointer (some ⟨P, 0, none⟩)] w fun r w' => r = .returned (.int .i64 0) ∧ NS w' B P (ini ++ [5]) e ∧ Below B w w' := by
  obtain ⟨g, cap, h1, h2, hgP, hBP, hBg⟩ := h.last
  obtain ⟨c0, c1, _, _⟩ := ns_cells h1
  have hc := h2.cellAt ini.length (by omega)
  rw [List.getElem?_append_right (by simp), List.length_map, Nat.sub_self] at hc
  have hc' : w.cell? ⟨g, ini.length, none⟩ = some (.int .u8 4) := hc
  have hfz := h2.frozenAt ini.length
  obtain ⟨hcp, hcm⟩ := own_cap h2
  have hst := (h2.stored ini.length (.int .u8 5)).1
  rw [show (ini.map (Value.int .u8) ++ [Value.int .u8 4]).set ini.length (.int .u8 5) = ini.map (Value.int .u8) ++ [.int .u8 5] by rw [List.set_append_right _ _ (by simp)]; simp] at hst
  have HN : Hid (NS (w.setCell ⟨g, ini.length, none⟩ (.int .u8 5)) B P (ini ++ [5]) e) := by
    refine ⟨some ⟨g, 0, none⟩, cap, ?_, ?_, fun a ha => by cases ha; exact hgP, hBP⟩
    · rw [Below.heap_setCell _ _ _ _ (Ne.symm hgP), List.length_append]; exact h1
    · rw [List.length_append, List.map_append]; exact hst
  have HB : Hid (Below B w (w.setCell ⟨g, ini.length, none⟩ (.int .u8 5))) := (Below.refl _ _).setCell hBg _
  generalize ini.length = k at c0 hc' hl hcp hfz HN HB
  clear h1 h2 h hc hst
  go_enter Tryd.func101, Tryd.ntmps101
  go_wp2
  go_ret
  exact ⟨rfl, HN.out, HB.out⟩
set_option maxHeartbeats 2000000 in
set_option maxRecDepth 1000000 in
theorem leave_nil (P B : Nat) (e : Bool) (w : World) (h : NS w B P [] e) :
    Calls Tryd.prog 102 #[.pointer (some ⟨P, 0, none⟩)] w fun r w' => r = .returned (.tuple #[]) ∧ NS w' B P [] true ∧ Below B w w' := by
  obtain ⟨o, cap, h1, h2, h3, hBP⟩ := h
  obtain ⟨c0, c1, _, f1⟩ := ns_cells h1
  rw [List.length_nil] at c0
  have HN : Hid (NS (w.setCell ⟨P, 1, none⟩ (.bool true)) B P [] true) := ⟨o, cap, ns_set1 h1 _, ownsRow_setCell_other h2 (far_ne h3) _, h3, hBP⟩
  have HB : Hid (Below B w (w.setCell ⟨P, 1, none⟩ (.bool true))) := (Below.refl _ _).setCell hBP _
  clear h1 h2
  go_enter Tryd.func102, Tryd.ntmps102
  go_wp2
  refine bodyPost_ret (results_none rfl _ _ _) rfl ?_
  exact ⟨rfl, HN.out, HB.out⟩
set_option maxHeartbeats 4000000 in
set_option maxRecDepth 1000000 in
theorem leave_ok (P B : Nat) (ini : List Int) (x : Int) (hl : ini.length < 1000) (e : Bool) (w : World) (h : NS w B P (ini ++ [x]) e) :
    Calls Tryd.prog 102 #[.pointer (some ⟨P, 0, none⟩)] w fun r w' => r = .returned (.tuple #[]) ∧ NS w' B P ini e ∧ Below B w w' := by
  obtain ⟨g, cap, h1, h2, hgP, hBP, hBg⟩ := h.last
  obtain ⟨c0, c1, f0, _⟩ := ns_cells h1
  obtain ⟨hcp, hcm⟩ := own_cap h2
  have hpop := ownsRow_pop (xs := ini.map (Value.int .u8)) (last := [.int .u8 x]) (n := ini.length) (by simp) h2
  have HN : Hid (NS (w.setCell ⟨P, 0, none⟩ (.slice (some ⟨g, 0, none⟩) ini.length cap)) B P ini e) := ⟨some ⟨g, 0, none⟩, cap, ns_set0 h1 _, ownsRow_setCell_other hpop (by simp [Value.ownBlock]; exact hgP) _, fun a ha => by cases ha; exact hgP, hBP⟩
  have HB : Hid (Below B w (w.setCell ⟨P, 0, none⟩ (.slice (some ⟨g, 0, none⟩) ini.length cap))) := (Below.refl _ _).setCell hBP _
  generalize ini.length = k at c0 hl hcp HN HB
  clear h1 h2 h hpop
  have hk0 : (0 : Int) ≤ (k : Int) := by omega
  have hk1 : (k : Int) ≤ (cap : Int) := by omega
  have hne : ((k : Int) + 1 == 0) = false := by rw [beq_eq_false_iff_ne]; omega
  go_enter Tryd.func102, Tryd.ntmps102
  go_wp2
  go_region
  all_goals
    go_wp2
    go_end0
    exact ⟨rfl, HN.out, HB.out.drew⟩

end Go.Proofs.YtgdleahhkaolbaaDoor
