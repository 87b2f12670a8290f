/-
 What the small methods of a nesting do. What a nesting's step does. What the program's own nest.Check does.
-/
import Derived.Test.YtkceplamaocmmaaGreatDoorZGVal
import Derived.WalkSmall
import Derived.OneCell
import Derived.Laws.OwnMore
import Derived.Deep.AppendLies
import Derived.Test.YtkceplamaocmmaaGreatDoorZPQ
set_option maxHeartbeats 4000000
set_option maxRecDepth 1000000
namespace Go.Proofs.YtkceplamaocmmaaGreatDoor
set_option linter.unusedVariables false
open Go.RowKit
theorem Tryz.infoU8 : (Tryz.prog.info? 5).map (fun i => (i.zero, i.size, i.bytes)) = some (some (.int .u8 0), 1, 1) := by kernel_rfl
def NS (w : World) (B P : Nat) (bs : List Int) (ended : Bool) : Prop :=
 ∃ o cap, w.heap[P]? = some (.cells #[.slice o bs.length cap, .bool ended] 39 (0, 0)) ∧ w.ownsRow B 5 1 (.slice o bs.length cap) bs.length (bs.map (Value.int .u8)) ∧ (∀ g, o = some g → g.block ≠ P) ∧ B ≤ P
theorem NS.lt {w : World} {B P : Nat} {bs : List Int} {e : Bool} (h : NS w B P bs e) : P < w.heap.size := by
 obtain ⟨o, cap, h, _⟩ := h
 exact (Array.getElem?_eq_some_iff.1 h).1
theorem own8_under {w1 w2 : World} {base k : Nat} {v : Value} {xs : List Value} (h : w1.ownsRow base 5 1 v k xs) (b : Below w1.heap.size w1 w2) : w2.ownsRow base 5 1 v k xs :=
 h.kept (row := none) ⟨b.os, b.tape, b.output, b.size, fun k hk _ => b.block k hk⟩ (by cases hv : v.ownBlock <;> simp)
theorem NS.under {w w' : World} {B P : Nat} {bs : List Int} {e : Bool} (h : NS w B P bs e) (b : Below w.heap.size w w') : NS w' B P bs e := by
 have hl := h.lt
 obtain ⟨o, cap, h1, h2, h3⟩ := h
 exact ⟨o, cap, by rw [b.block P hl, h1], own8_under h2 b, h3⟩
theorem own_cap {w : World} {base e k cap : Nat} {o : Option Addr} {xs : List Value} (h : w.ownsRow base e 1 (.slice o k cap) k xs) : k ≤ cap ∧ cap ≤ 9223372036854775807 := by
 rcases h.2 with ⟨h1, h2⟩ | ⟨g, c, cur, h1, _, _, h2, h3, _⟩
 ·simp only [Value.slice.injEq] at h1
  omega
 ·simp only [Value.slice.injEq] at h1
  unfold maxLen at h3
  omega
theorem ns_cells {w : World} {P : Nat} {c0 c1 : Value} {t : TypeId} (h : w.heap[P]? = some (.cells #[c0, c1] t (0, 0))) : w.cell? ⟨P, 0, none⟩ = some c0 ∧ w.cell? ⟨P, 1, none⟩ = some c1 ∧ w.frozen? ⟨P, 0, none⟩ = false ∧ w.frozen? ⟨P, 1, none⟩ = false := by
 simp [World.cell?, World.frozen?, h]
theorem ns_set0 {w : World} {P : Nat} {c0 c1 : Value} {t : TypeId} (h : w.heap[P]? = some (.cells #[c0, c1] t (0, 0))) (v : Value) : (w.setCell ⟨P, 0, none⟩ v).heap[P]? = some (.cells #[v, c1] t (0, 0)) := by
 simp [World.setCell, Array.getElem?_modify, h]
theorem ns_set1 {w : World} {P : Nat} {c0 c1 : Value} {t : TypeId} (h : w.heap[P]? = some (.cells #[c0, c1] t (0, 0))) (v : Value) : (w.setCell ⟨P, 1, none⟩ v).heap[P]? = some (.cells #[c0, v] t (0, 0)) := by
 simp [World.setCell, Array.getElem?_modify, h]
def ob (w : World) (P : Nat) : Option Nat := match w.heap[P]? with | some (.cells cs _ _) => (cs[0]?).bind Value.ownBlock | _ => none
theorem ob_of {w : World} {P : Nat} {c0 c1 : Value} {t : TypeId} (h : w.heap[P]? = some (.cells #[c0, c1] t (0, 0))) : ob w P = c0.ownBlock := by
 unfold ob
 rw [h]
 rfl
structure NK (P : Nat) (w w' : World) : Prop where
 size : w.heap.size ≤ w'.heap.size
 block : ∀ j, j < w.heap.size → j ≠ P → ob w P ≠ some j → w'.heap[j]? = w.heap[j]?
 opens : ob w' P = ob w P ∨ ∃ g, w.heap.size ≤ g ∧ ob w' P = some g
theorem NK.refl (P : Nat) (w : World) : NK P w w := ⟨Nat.le_refl _, fun _ _ _ _ => rfl, Or.inl rfl⟩
theorem NK.of_below {P : Nat} {w w' : World} (h : Below w.heap.size w w') (hP : P < w.heap.size) : NK P w w' :=
 ⟨h.size, fun j hj _ _ => h.block j hj, Or.inl (by unfold ob; rw [h.block P hP])⟩
theorem NK.trans {P : Nat} {a b c : World} (h : NK P a b) (k : NK P b c) : NK P a c := by
 refine ⟨Nat.le_trans h.size k.size, fun j hj hP ho => ?_, ?_⟩
 ·have hb : ob b P ≠ some j := by
   rcases h.opens with e | ⟨g, hg, e⟩
   ·rw [e]; exact ho
   ·rw [e]
    intro e2
    cases e2
    omega
  rw [k.block j (Nat.lt_of_lt_of_le hj h.size) hP hb, h.block j hj hP ho]
 ·rcases k.opens with e | ⟨g, hg, e⟩
  ·rcases h.opens with f | ⟨g, hg, f⟩
   ·exact Or.inl (e.trans f)
   ·exact Or.inr ⟨g, hg, e.trans f⟩
  ·exact Or.inr ⟨g, Nat.le_trans h.size hg, e⟩
theorem NK.drew {P : Nat} {a b : World} (h : NK P a b) : NK P a b.drew := ⟨h.size, h.block, h.opens⟩
theorem NK.set0 {P : Nat} {w : World} {c0 c1 : Value} {t : TypeId} (h : w.heap[P]? = some (.cells #[c0, c1] t (0, 0))) (v : Value) (hv : v.ownBlock = c0.ownBlock) : NK P w (w.setCell ⟨P, 0, none⟩ v) := by
 refine ⟨by simp [World.setCell], fun j _ hP _ => Below.heap_setCell _ _ _ _ hP, Or.inl ?_⟩
 rw [ob_of h, ob_of (ns_set0 h v), hv]
theorem NK.set1 {P : Nat} {w : World} {c0 c1 : Value} {t : TypeId} (h : w.heap[P]? = some (.cells #[c0, c1] t (0, 0))) (v : Value) : NK P w (w.setCell ⟨P, 1, none⟩ v) := by
 refine ⟨by simp [World.setCell], fun j _ hP _ => Below.heap_setCell _ _ _ _ hP, Or.inl ?_⟩
 rw [ob_of h, ob_of (ns_set1 h v)]
theorem NK.row {P g i : Nat} {w : World} {c0 c1 : Value} {t : TypeId} (h : w.heap[P]? = some (.cells #[c0, c1] t (0, 0))) (hg : c0.ownBlock = some g) (hgP : g ≠ P) (v : Value) : NK P w (w.setCell ⟨g, i, none⟩ v) := by
 have e : (w.setCell ⟨g, i, none⟩ v).heap[P]? = w.heap[P]? := Below.heap_setCell _ _ _ _ (Ne.symm hgP)
 refine ⟨by simp [World.setCell], fun j _ _ ho => Below.heap_setCell _ _ _ _ ?_, Or.inl (by unfold ob; rw [e])⟩
 rw [ob_of h, hg] at ho
 exact fun e2 => ho (by rw [e2])
theorem NK.grown {P g H : Nat} {w w1 : World} {c0 c1 v : Value} {t : TypeId} (h : w.heap[P]? = some (.cells #[c0, c1] t (0, 0))) (hf : c0.ownBlock ≠ some P) (hg : w.grownBy w1 c0.ownBlock) (hat : c0.ownBlock = some g ∨ g = H) (hH : w.heap.size ≤ H) (hv : v.ownBlock = some g) : NK P w (w1.setCell ⟨P, 0, none⟩ v) := by
 have hP : P < w.heap.size := (Array.getElem?_eq_some_iff.1 h).1
 have e1 : w1.heap[P]? = some (.cells #[c0, c1] t (0, 0)) := by rw [hg.block P hP (Ne.symm hf)]; exact h
 refine ⟨by simp [World.setCell]; exact hg.size, fun j hj hjP ho => ?_, ?_⟩
 ·rw [Below.heap_setCell _ _ _ _ hjP]
  rw [ob_of h] at ho
  exact hg.block j hj (Ne.symm ho)
 ·rw [ob_of (ns_set0 e1 v), ob_of h, hv]
  rcases hat with e | e
  ·exact Or.inl e.symm
  ·exact Or.inr ⟨g, by omega, rfl⟩
theorem far_ne {o : Option Addr} {P k cap : Nat} (h : ∀ g, o = some g → g.block ≠ P) : (Value.slice o k cap).ownBlock ≠ some P := by
 cases o with
 | none => simp [Value.ownBlock]
 | some g => simpa [Value.ownBlock] using h g rfl
theorem enter_full (P B : Nat) (bs : List Int) (e : Bool) (op : Int) (w : World) (h : NS w B P bs e) (_hl : bs.length = 12) :
  Calls Tryz.prog 29 #[.pointer (some ⟨P, 0, none⟩), .int .u8 op] w fun r w' => r = .returned (.int .i64 7) ∧ w' = w := by
 obtain ⟨o, cap, h1, h2, _⟩ := h
 obtain ⟨c0, c1, _, _⟩ := ns_cells h1
 rw [_hl] at c0
 clear h1 h2
 go_enter Tryz.func29, Tryz.ntmps29
 go_wp2
 go_ret
 exact ⟨rfl, rfl⟩
theorem enter_ok (P B : Nat) (bs : List Int) (e : Bool) (op : Int) (w : World) (h : NS w B P bs e) (hl : bs.length < 12) (hB : B ≤ w.heap.size) :
  Calls Tryz.prog 29 #[.pointer (some ⟨P, 0, none⟩), .int .u8 op] w fun r w' => r = .returned (.int .i64 0) ∧ NS w' B P (bs ++ [op]) e ∧ Below B w w' ∧ NK P w w' := by
 obtain ⟨i0, hi, hz0, hz1, hz2⟩ := info_parts Tryz.infoU8
 have hPw := h.lt
 obtain ⟨o, cap, h1, h2, hfar, hBP⟩ := h
 obtain ⟨c0, c1, f0, _⟩ := ns_cells h1
 have HF := far_ne (k := bs.length) (cap := cap) hfar
 have hne : ((bs.length : Int) == 12) = false := by rw [beq_eq_false_iff_ne]; omega
 obtain ⟨k, hk⟩ : ∃ k, bs.length = k := ⟨_, rfl⟩
 rw [hk] at c0 h2 HF hl hne h1
 have HK : Hid (bs.length = k) := hk
 have H1 : Hid (type_of% h1) := h1
 have HFr : Hid (∀ g, o = some g → g.block ≠ P) := hfar
 clear hk h1 hfar
 go_enter Tryz.func29, Tryz.ntmps29
 go_wp2_with (at_builtin; refine wpList_append_lies _ rfl _ _ 37 rfl B 5 i0 (.int .u8 0) 1 1 Tryz.underlying37 hi hz0 hz1 hz2 rfl (by omega) _ k (bs.map (Value.int .u8)) rfl (h2.alloc _) ⟨w.heap.size, 0, none⟩ 1 1 [.int .u8 op] rfl rfl (World.news_of_block (cs := #[.int .u8 op]) (t := 5) (fr := (0, 0)) (heap_alloc_new w _)) (by simp [Value.oneCell']) (by omega) (by unfold maxLen; omega) (by omega) (by simp; omega) (w.heap.size + 1) (by simp) ?_)
 intro g capg w1 hown hgrow hat hlt
 have hgP : g ≠ P := by
  rcases hat with e | e
  ·rw [e] at HF
   simpa using HF
  ·omega
 have hp1 : w1.heap[P]? = some (.cells #[.slice o k cap, .bool e] 39 (0, 0)) := by
  rw [hgrow.block P (by simp; omega) (Ne.symm HF), Below.heap_alloc _ _ _ hPw]
  exact H1.out
 obtain ⟨d0, d1, g0, _⟩ := ns_cells hp1
 have HP2 : Hid (type_of% (ns_set0 hp1 (.slice (some ⟨g, 0, none⟩) (k + 1) capg))) := ns_set0 hp1 _
 have HO2 : Hid ((w1.setCell ⟨P, 0, none⟩ (.slice (some ⟨g, 0, none⟩) (k + 1) capg)).ownsRow B 5 1 (.slice (some ⟨g, 0, none⟩) (k + 1) capg) (k + 1) ((bs ++ [op]).map (Value.int .u8))) := by
  unfold Hid
  rw [List.map_append]
  exact ownsRow_setCell_other hown (by simp [Value.ownBlock]; exact hgP) _
 have HB2 : Hid (Below B w (w1.setCell ⟨P, 0, none⟩ (.slice (some ⟨g, 0, none⟩) (k + 1) capg))) := ((((Below.refl _ _).alloc hB _).grown hgrow (by simp; omega) (fun j hj => (h2.lt j hj).1))).setCell hBP _
 have hpa : (w.alloc (.cells #[.int .u8 op] 5)).heap[P]? = some (.cells #[.slice o k cap, .bool e] 39 (0, 0)) := by rw [Below.heap_alloc _ _ _ hPw]; exact H1.out
 have HK2 : Hid (NK P w (w1.setCell ⟨P, 0, none⟩ (.slice (some ⟨g, 0, none⟩) (k + 1) capg))) := (NK.of_below ((Below.refl _ _).alloc (Nat.le_refl _) _) hPw).trans (NK.grown hpa HF hgrow hat (by simp) rfl)
 clear hown hgrow hat hlt hp1 h2 HF hpa
 go_wp2
 go_ret
 refine ⟨rfl, ⟨some ⟨g, 0, none⟩, capg, ?_, ?_, fun a ha => by cases ha; exact hgP, hBP⟩, HB2.out, HK2.out⟩
 ·rw [List.length_append, HK.out]; exact HP2.out
 ·rw [List.length_append, HK.out]; exact HO2.out
theorem turn_nil (P B : Nat) (e : Bool) (w : World) (h : NS w B P [] e) :
  Calls Tryz.prog 30 #[.pointer (some ⟨P, 0, none⟩)] w fun r w' => r = .returned (.int .i64 4) ∧ w' = w := by
 obtain ⟨o, cap, h1, _, _⟩ := h
 obtain ⟨c0, c1, _, _⟩ := ns_cells h1
 rw [List.length_nil] at c0
 clear h1
 go_enter Tryz.func30, Tryz.ntmps30
 go_wp2
 go_ret
 exact ⟨rfl, rfl⟩
theorem NS.last {w : World} {B P : Nat} {ini : List Int} {x : Int} {e : Bool} (h : NS w B P (ini ++ [x]) e) :
  ∃ g cap, w.heap[P]? = some (.cells #[.slice (some ⟨g, 0, none⟩) (ini.length + 1) cap, .bool e] 39 (0, 0)) ∧ w.ownsRow B 5 1 (.slice (some ⟨g, 0, none⟩) (ini.length + 1) cap) (ini.length + 1) (ini.map (Value.int .u8) ++ [.int .u8 x]) ∧ g ≠ P ∧ B ≤ P ∧ B ≤ g := by
 obtain ⟨o, cap, h1, h2, h3, h4⟩ := h
 have hl : (ini ++ [x]).length = ini.length + 1 := by simp
 rw [hl] at h1 h2
 rw [List.map_append] at h2
 obtain ⟨g, c, hv, hb, _⟩ := h2.form (by omega)
 simp only [Value.slice.injEq] at hv
 obtain ⟨rfl, _, rfl⟩ := hv
 exact ⟨g, cap, h1, h2, h3 _ rfl, h4, hb⟩
theorem turn_bad (P B : Nat) (ini : List Int) (x : Int) (hx : x ≠ 4) (hl : ini.length < 1000) (e : Bool) (w : World) (h : NS w B P (ini ++ [x]) e) :
  Calls Tryz.prog 30 #[.pointer (some ⟨P, 0, none⟩)] w fun r w' => r = .returned (.int .i64 4) ∧ w' = w := by
 obtain ⟨g, cap, h1, h2, hgP, _, _⟩ := h.last
 obtain ⟨c0, c1, _, _⟩ := ns_cells h1
 have hc := h2.cellAt ini.length (by omega)
 rw [List.getElem?_append_right (by simp), List.length_map, Nat.sub_self] at hc
 have hc' : w.cell? ⟨g, ini.length, none⟩ = some (.int .u8 x) := hc
 have hxb : (x == 4) = false := by rw [beq_eq_false_iff_ne]; exact hx
 have hxn : (x != 4) = true := by rw [bne, hxb]; rfl
 obtain ⟨hcp, hcm⟩ := own_cap h2
 generalize ini.length = k at c0 hc' hl hcp
 clear h1 h2 h hc hx
 go_enter Tryz.func30, Tryz.ntmps30
 go_wp2
 go_ret
 exact ⟨rfl, rfl⟩
theorem turn_ok (P B : Nat) (ini : List Int) (hl : ini.length < 1000) (e : Bool) (w : World) (h : NS w B P (ini ++ [4]) e) :
  Calls Tryz.prog 30 #[.pointer (some ⟨P, 0, none⟩)] w fun r w' => r = .returned (.int .i64 0) ∧ NS w' B P (ini ++ [5]) e ∧ Below B w w' ∧ NK P w w' := by
 obtain ⟨g, cap, h1, h2, hgP, hBP, hBg⟩ := h.last
 obtain ⟨c0, c1, _, _⟩ := ns_cells h1
 have hc := h2.cellAt ini.length (by omega)
 rw [List.getElem?_append_right (by simp), List.length_map, Nat.sub_self] at hc
 have hc' : w.cell? ⟨g, ini.length, none⟩ = some (.int .u8 4) := hc
 have hfz := h2.frozenAt ini.length
 obtain ⟨hcp, hcm⟩ := own_cap h2
 have hst := (h2.stored ini.length (.int .u8 5)).1
 rw [show (ini.map (Value.int .u8) ++ [Value.int .u8 4]).set ini.length (.int .u8 5) = ini.map (Value.int .u8) ++ [.int .u8 5] by rw [List.set_append_right _ _ (by simp)]; simp] at hst
 have HN : Hid (NS (w.setCell ⟨g, ini.length, none⟩ (.int .u8 5)) B P (ini ++ [5]) e) := by
  refine ⟨some ⟨g, 0, none⟩, cap, ?_, ?_, fun a ha => by cases ha; exact hgP, hBP⟩
  ·rw [Below.heap_setCell _ _ _ _ (Ne.symm hgP), List.length_append]; exact h1
  ·rw [List.length_append, List.map_append]; exact hst
 have HB : Hid (Below B w (w.setCell ⟨g, ini.length, none⟩ (.int .u8 5))) := (Below.refl _ _).setCell hBg _
 have HK : Hid (NK P w (w.setCell ⟨g, ini.length, none⟩ (.int .u8 5))) := NK.row h1 rfl hgP _
 generalize ini.length = k at c0 hc' hl hcp hfz HN HB HK
 clear h1 h2 h hc hst
 go_enter Tryz.func30, Tryz.ntmps30
 go_wp2
 go_ret
 exact ⟨rfl, HN.out, HB.out, HK.out⟩
theorem leave_nil (P B : Nat) (e : Bool) (w : World) (h : NS w B P [] e) :
  Calls Tryz.prog 31 #[.pointer (some ⟨P, 0, none⟩)] w fun r w' => r = .returned (.tuple #[]) ∧ NS w' B P [] true ∧ Below B w w' ∧ NK P w w' := by
 obtain ⟨o, cap, h1, h2, h3, hBP⟩ := h
 obtain ⟨c0, c1, _, f1⟩ := ns_cells h1
 rw [List.length_nil] at c0
 have HN : Hid (NS (w.setCell ⟨P, 1, none⟩ (.bool true)) B P [] true) := ⟨o, cap, ns_set1 h1 _, ownsRow_setCell_other h2 (far_ne h3) _, h3, hBP⟩
 have HB : Hid (Below B w (w.setCell ⟨P, 1, none⟩ (.bool true))) := (Below.refl _ _).setCell hBP _
 have HK : Hid (NK P w (w.setCell ⟨P, 1, none⟩ (.bool true))) := NK.set1 h1 _
 clear h1 h2
 go_enter Tryz.func31, Tryz.ntmps31
 go_wp2
 refine bodyPost_ret (results_none rfl _ _ _) rfl ?_
 exact ⟨rfl, HN.out, HB.out, HK.out⟩
theorem leave_ok (P B : Nat) (ini : List Int) (x : Int) (hl : ini.length < 1000) (e : Bool) (w : World) (h : NS w B P (ini ++ [x]) e) :
  Calls Tryz.prog 31 #[.pointer (some ⟨P, 0, none⟩)] w fun r w' => r = .returned (.tuple #[]) ∧ NS w' B P ini e ∧ Below B w w' ∧ NK P w w' := by
 obtain ⟨g, cap, h1, h2, hgP, hBP, hBg⟩ := h.last
 obtain ⟨c0, c1, f0, _⟩ := ns_cells h1
 obtain ⟨hcp, hcm⟩ := own_cap h2
 have hpop := ownsRow_pop (xs := ini.map (Value.int .u8)) (last := [.int .u8 x]) (n := ini.length) (by simp) h2
 have HN : Hid (NS (w.setCell ⟨P, 0, none⟩ (.slice (some ⟨g, 0, none⟩) ini.length cap)) B P ini e) := ⟨some ⟨g, 0, none⟩, cap, ns_set0 h1 _, ownsRow_setCell_other hpop (by simp [Value.ownBlock]; exact hgP) _, fun a ha => by cases ha; exact hgP, hBP⟩
 have HB : Hid (Below B w (w.setCell ⟨P, 0, none⟩ (.slice (some ⟨g, 0, none⟩) ini.length cap))) := (Below.refl _ _).setCell hBP _
 have HK : Hid (NK P w (w.setCell ⟨P, 0, none⟩ (.slice (some ⟨g, 0, none⟩) ini.length cap))) := NK.set0 h1 _ rfl
 generalize ini.length = k at c0 hl hcp HN HB HK
 clear h1 h2 h hpop
 have hk0 : (0 : Int) ≤ (k : Int) := by omega
 have hk1 : (k : Int) ≤ (cap : Int) := by omega
 have hne : ((k : Int) + 1 == 0) = false := by rw [beq_eq_false_iff_ne]; omega
 go_enter Tryz.func31, Tryz.ntmps31
 go_wp2
 go_region
 all_goals
  go_wp2
  go_end0
  exact ⟨rfl, HN.out, HB.out.drew, HK.out.drew⟩
end Go.Proofs.YtkceplamaocmmaaGreatDoor
namespace Go.Proofs.YtkceplamaocmmaaGreatDoor
open Go.RowKit
def nStep (c op : Int) (bs : List Int) (en : Bool) : Int × List Int × Bool :=
 if c ≠ 0 then (c, bs, en) else if en = true then (4, bs, en)
 else if op = 2 ∨ op = 3 ∨ op = 4 then (if bs.length = 12 then (7, bs, en) else (0, bs ++ [op], en))
 else if op = 5 then (match bs.getLast? with | some 4 => (0, bs.dropLast ++ [5], en) | _ => (4, bs, en))
 else if op = 11 then (match bs with | [] => (0, [], true) | _ :: _ => (0, bs.dropLast, en))
 else (0, bs, en)
theorem NS.cells {w : World} {B P : Nat} {bs : List Int} {e : Bool} (h : NS w B P bs e) : w.cell? ⟨P, 1, none⟩ = some (.bool e) := by
 obtain ⟨o, cap, h1, _⟩ := h
 exact (ns_cells h1).2.1
theorem step_err (P B : Nat) (op A B' : Int) (o : Option Addr) (n cap : Nat) (c : Int) (_hc : (c == 0) = false) (w : World) (hB : B ≤ w.heap.size) (HC : Hid (∀ w', Below w.heap.size w w' → Calls Tryz.prog 28 #[.agg #[.int .u8 op, .int .i64 A, .int .i64 B', .slice o n cap]] w' fun r w'' => r = .returned (.int .i64 c) ∧ Below w'.heap.size w' w'')) :
  Calls Tryz.prog 15 #[.pointer (some ⟨P, 0, none⟩), .agg #[.int .u8 op, .int .i64 A, .int .i64 B', .slice o n cap]] w fun r w' => r = .returned (.int .i64 c) ∧ Below w.heap.size w w' ∧ Below B w w' := by
 have hne : (c != 0) = true := by rw [bne, _hc]; rfl
 go_enter Tryz.func15, Tryz.ntmps15
 go_wp2_with fail
 refine (HC.out _ ((Below.refl _ _).alloc (Nat.le_refl _) _)).mono ?_
 rintro e w1 ⟨rfl, b1⟩
 have b01 : Below w.heap.size w w1 := ((Below.refl _ _).alloc (Nat.le_refl _) _).trans (b1.mono (by simp))
 go_wp2
 go_ret
 exact ⟨rfl, b01, b01.mono hB⟩
theorem step_ended (P B : Nat) (bs : List Int) (op A B' : Int) (o : Option Addr) (n cap : Nat) (w : World) (h : NS w B P bs true) (hB : B ≤ w.heap.size) (HC : Hid (∀ w', Below w.heap.size w w' → Calls Tryz.prog 28 #[.agg #[.int .u8 op, .int .i64 A, .int .i64 B', .slice o n cap]] w' fun r w'' => r = .returned (.int .i64 0) ∧ Below w'.heap.size w' w'')) :
  Calls Tryz.prog 15 #[.pointer (some ⟨P, 0, none⟩), .agg #[.int .u8 op, .int .i64 A, .int .i64 B', .slice o n cap]] w fun r w' => r = .returned (.int .i64 4) ∧ Below w.heap.size w w' ∧ Below B w w' := by
 go_enter Tryz.func15, Tryz.ntmps15
 go_wp2_with fail
 refine (HC.out _ ((Below.refl _ _).alloc (Nat.le_refl _) _)).mono ?_
 rintro e w1 ⟨rfl, b1⟩
 have b01 : Below w.heap.size w w1 := ((Below.refl _ _).alloc (Nat.le_refl _) _).trans (b1.mono (by simp))
 have hc1 := (h.under b01).cells
 go_wp2
 go_ret
 exact ⟨rfl, b01, b01.mono hB⟩
theorem step_2 (P B : Nat) (bs bs2 : List Int) (en2 : Bool) (r0 : Int) (A B' : Int) (o : Option Addr) (n cap : Nat) (w : World) (h : NS w B P bs false) (hB : B ≤ w.heap.size) (HC : Hid (∀ w', Below w.heap.size w w' → Calls Tryz.prog 28 #[.agg #[.int .u8 2, .int .i64 A, .int .i64 B', .slice o n cap]] w' fun r w'' => r = .returned (.int .i64 0) ∧ Below w'.heap.size w' w''))
  (HE : Hid (∀ w', NS w' B P bs false → B ≤ w'.heap.size → Calls Tryz.prog 29 #[.pointer (some ⟨P, 0, none⟩), .int .u8 2] w' fun r w'' => r = .returned (.int .i64 r0) ∧ NS w'' B P bs2 en2 ∧ Below B w' w'' ∧ NK P w' w'')) :
  Calls Tryz.prog 15 #[.pointer (some ⟨P, 0, none⟩), .agg #[.int .u8 2, .int .i64 A, .int .i64 B', .slice o n cap]] w fun r w' => r = .returned (.int .i64 r0) ∧ NS w' B P bs2 en2 ∧ Below B w w' ∧ NK P w w' := by
 go_enter Tryz.func15, Tryz.ntmps15
 go_wp2_with fail
 refine (HC.out _ ((Below.refl _ _).alloc (Nat.le_refl _) _)).mono ?_
 rintro e w1 ⟨rfl, b1⟩
 have b01 : Below w.heap.size w w1 := ((Below.refl _ _).alloc (Nat.le_refl _) _).trans (b1.mono (by simp))
 have HN1 : Hid (NS w1 B P bs false) := h.under b01
 have hc1 := HN1.out.cells
 have xX : XS w1 w.heap.size (.int .u8 2) (.int .i64 A) (.int .i64 B') (.slice o n cap) := by
  unfold XS
  rw [b1.block w.heap.size (by simp)]
  exact new_block _ _
 obtain ⟨x0, x1, x2, x3⟩ := xX.cell
 have hB1 : B ≤ w1.heap.size := Nat.le_trans hB b01.size
 have HB1 : Hid (Below B w w1) := b01.mono hB
 have HK1 : Hid (NK P w w1) := NK.of_below b01 h.lt
 clear xX b1 b01 h
 go_wp2_with fail
 refine (HE.out _ HN1.out hB1).mono ?_
 rintro e w2 ⟨rfl, n2, b2, k2⟩
 go_wp2
 go_ret
 exact ⟨rfl, n2, HB1.out.trans b2, HK1.out.trans k2⟩
theorem step_3 (P B : Nat) (bs bs2 : List Int) (en2 : Bool) (r0 : Int) (A B' : Int) (o : Option Addr) (n cap : Nat) (w : World) (h : NS w B P bs false) (hB : B ≤ w.heap.size) (HC : Hid (∀ w', Below w.heap.size w w' → Calls Tryz.prog 28 #[.agg #[.int .u8 3, .int .i64 A, .int .i64 B', .slice o n cap]] w' fun r w'' => r = .returned (.int .i64 0) ∧ Below w'.heap.size w' w''))
  (HE : Hid (∀ w', NS w' B P bs false → B ≤ w'.heap.size → Calls Tryz.prog 29 #[.pointer (some ⟨P, 0, none⟩), .int .u8 3] w' fun r w'' => r = .returned (.int .i64 r0) ∧ NS w'' B P bs2 en2 ∧ Below B w' w'' ∧ NK P w' w'')) :
  Calls Tryz.prog 15 #[.pointer (some ⟨P, 0, none⟩), .agg #[.int .u8 3, .int .i64 A, .int .i64 B', .slice o n cap]] w fun r w' => r = .returned (.int .i64 r0) ∧ NS w' B P bs2 en2 ∧ Below B w w' ∧ NK P w w' := by
 go_enter Tryz.func15, Tryz.ntmps15
 go_wp2_with fail
 refine (HC.out _ ((Below.refl _ _).alloc (Nat.le_refl _) _)).mono ?_
 rintro e w1 ⟨rfl, b1⟩
 have b01 : Below w.heap.size w w1 := ((Below.refl _ _).alloc (Nat.le_refl _) _).trans (b1.mono (by simp))
 have HN1 : Hid (NS w1 B P bs false) := h.under b01
 have hc1 := HN1.out.cells
 have xX : XS w1 w.heap.size (.int .u8 3) (.int .i64 A) (.int .i64 B') (.slice o n cap) := by
  unfold XS
  rw [b1.block w.heap.size (by simp)]
  exact new_block _ _
 obtain ⟨x0, x1, x2, x3⟩ := xX.cell
 have hB1 : B ≤ w1.heap.size := Nat.le_trans hB b01.size
 have HB1 : Hid (Below B w w1) := b01.mono hB
 have HK1 : Hid (NK P w w1) := NK.of_below b01 h.lt
 clear xX b1 b01 h
 go_wp2_with fail
 refine (HE.out _ HN1.out hB1).mono ?_
 rintro e w2 ⟨rfl, n2, b2, k2⟩
 go_wp2
 go_ret
 exact ⟨rfl, n2, HB1.out.trans b2, HK1.out.trans k2⟩
theorem step_4 (P B : Nat) (bs bs2 : List Int) (en2 : Bool) (r0 : Int) (A B' : Int) (o : Option Addr) (n cap : Nat) (w : World) (h : NS w B P bs false) (hB : B ≤ w.heap.size) (HC : Hid (∀ w', Below w.heap.size w w' → Calls Tryz.prog 28 #[.agg #[.int .u8 4, .int .i64 A, .int .i64 B', .slice o n cap]] w' fun r w'' => r = .returned (.int .i64 0) ∧ Below w'.heap.size w' w''))
  (HE : Hid (∀ w', NS w' B P bs false → B ≤ w'.heap.size → Calls Tryz.prog 29 #[.pointer (some ⟨P, 0, none⟩), .int .u8 4] w' fun r w'' => r = .returned (.int .i64 r0) ∧ NS w'' B P bs2 en2 ∧ Below B w' w'' ∧ NK P w' w'')) :
  Calls Tryz.prog 15 #[.pointer (some ⟨P, 0, none⟩), .agg #[.int .u8 4, .int .i64 A, .int .i64 B', .slice o n cap]] w fun r w' => r = .returned (.int .i64 r0) ∧ NS w' B P bs2 en2 ∧ Below B w w' ∧ NK P w w' := by
 go_enter Tryz.func15, Tryz.ntmps15
 go_wp2_with fail
 refine (HC.out _ ((Below.refl _ _).alloc (Nat.le_refl _) _)).mono ?_
 rintro e w1 ⟨rfl, b1⟩
 have b01 : Below w.heap.size w w1 := ((Below.refl _ _).alloc (Nat.le_refl _) _).trans (b1.mono (by simp))
 have HN1 : Hid (NS w1 B P bs false) := h.under b01
 have hc1 := HN1.out.cells
 have xX : XS w1 w.heap.size (.int .u8 4) (.int .i64 A) (.int .i64 B') (.slice o n cap) := by
  unfold XS
  rw [b1.block w.heap.size (by simp)]
  exact new_block _ _
 obtain ⟨x0, x1, x2, x3⟩ := xX.cell
 have hB1 : B ≤ w1.heap.size := Nat.le_trans hB b01.size
 have HB1 : Hid (Below B w w1) := b01.mono hB
 have HK1 : Hid (NK P w w1) := NK.of_below b01 h.lt
 clear xX b1 b01 h
 go_wp2_with fail
 refine (HE.out _ HN1.out hB1).mono ?_
 rintro e w2 ⟨rfl, n2, b2, k2⟩
 go_wp2
 go_ret
 exact ⟨rfl, n2, HB1.out.trans b2, HK1.out.trans k2⟩
theorem step_5 (P B : Nat) (bs bs2 : List Int) (en2 : Bool) (r0 : Int) (A B' : Int) (o : Option Addr) (n cap : Nat) (w : World) (h : NS w B P bs false) (hB : B ≤ w.heap.size) (HC : Hid (∀ w', Below w.heap.size w w' → Calls Tryz.prog 28 #[.agg #[.int .u8 5, .int .i64 A, .int .i64 B', .slice o n cap]] w' fun r w'' => r = .returned (.int .i64 0) ∧ Below w'.heap.size w' w''))
  (HE : Hid (∀ w', NS w' B P bs false → Calls Tryz.prog 30 #[.pointer (some ⟨P, 0, none⟩)] w' fun r w'' => r = .returned (.int .i64 r0) ∧ NS w'' B P bs2 en2 ∧ Below B w' w'' ∧ NK P w' w'')) :
  Calls Tryz.prog 15 #[.pointer (some ⟨P, 0, none⟩), .agg #[.int .u8 5, .int .i64 A, .int .i64 B', .slice o n cap]] w fun r w' => r = .returned (.int .i64 r0) ∧ NS w' B P bs2 en2 ∧ Below B w w' ∧ NK P w w' := by
 go_enter Tryz.func15, Tryz.ntmps15
 go_wp2_with fail
 refine (HC.out _ ((Below.refl _ _).alloc (Nat.le_refl _) _)).mono ?_
 rintro e w1 ⟨rfl, b1⟩
 have b01 : Below w.heap.size w w1 := ((Below.refl _ _).alloc (Nat.le_refl _) _).trans (b1.mono (by simp))
 have HN1 : Hid (NS w1 B P bs false) := h.under b01
 have hc1 := HN1.out.cells
 have xX : XS w1 w.heap.size (.int .u8 5) (.int .i64 A) (.int .i64 B') (.slice o n cap) := by
  unfold XS
  rw [b1.block w.heap.size (by simp)]
  exact new_block _ _
 obtain ⟨x0, x1, x2, x3⟩ := xX.cell
 have hB1 : B ≤ w1.heap.size := Nat.le_trans hB b01.size
 have HB1 : Hid (Below B w w1) := b01.mono hB
 have HK1 : Hid (NK P w w1) := NK.of_below b01 h.lt
 clear xX b1 b01 h
 go_wp2_with fail
 refine (HE.out _ HN1.out).mono ?_
 rintro e w2 ⟨rfl, n2, b2, k2⟩
 go_wp2
 go_ret
 exact ⟨rfl, n2, HB1.out.trans b2, HK1.out.trans k2⟩
theorem step_11 (P B : Nat) (bs bs2 : List Int) (en2 : Bool) (A B' : Int) (o : Option Addr) (n cap : Nat) (w : World) (h : NS w B P bs false) (hB : B ≤ w.heap.size) (HC : Hid (∀ w', Below w.heap.size w w' → Calls Tryz.prog 28 #[.agg #[.int .u8 11, .int .i64 A, .int .i64 B', .slice o n cap]] w' fun r w'' => r = .returned (.int .i64 0) ∧ Below w'.heap.size w' w''))
  (HE : Hid (∀ w', NS w' B P bs false → Calls Tryz.prog 31 #[.pointer (some ⟨P, 0, none⟩)] w' fun r w'' => r = .returned (.tuple #[]) ∧ NS w'' B P bs2 en2 ∧ Below B w' w'' ∧ NK P w' w'')) :
  Calls Tryz.prog 15 #[.pointer (some ⟨P, 0, none⟩), .agg #[.int .u8 11, .int .i64 A, .int .i64 B', .slice o n cap]] w fun r w' => r = .returned (.int .i64 0) ∧ NS w' B P bs2 en2 ∧ Below B w w' ∧ NK P w w' := by
 go_enter Tryz.func15, Tryz.ntmps15
 go_wp2_with fail
 refine (HC.out _ ((Below.refl _ _).alloc (Nat.le_refl _) _)).mono ?_
 rintro e w1 ⟨rfl, b1⟩
 have b01 : Below w.heap.size w w1 := ((Below.refl _ _).alloc (Nat.le_refl _) _).trans (b1.mono (by simp))
 have HN1 : Hid (NS w1 B P bs false) := h.under b01
 have hc1 := HN1.out.cells
 have xX : XS w1 w.heap.size (.int .u8 11) (.int .i64 A) (.int .i64 B') (.slice o n cap) := by
  unfold XS
  rw [b1.block w.heap.size (by simp)]
  exact new_block _ _
 obtain ⟨x0, x1, x2, x3⟩ := xX.cell
 have hB1 : B ≤ w1.heap.size := Nat.le_trans hB b01.size
 have HB1 : Hid (Below B w w1) := b01.mono hB
 have HK1 : Hid (NK P w w1) := NK.of_below b01 h.lt
 clear xX b1 b01 h
 go_wp2_with fail
 refine (HE.out _ HN1.out).mono ?_
 rintro e w2 ⟨rfl, n2, b2, k2⟩
 go_wp2
 go_ret
 exact ⟨rfl, n2, HB1.out.trans b2, HK1.out.trans k2⟩
theorem step_plain (P B : Nat) (bs : List Int) (op A B' : Int) (o : Option Addr) (n cap : Nat) (_q2 : (op == 2) = false) (_q3 : (op == 3) = false) (_q4 : (op == 4) = false) (_q5 : (op == 5) = false) (_q11 : (op == 11) = false) (w : World) (h : NS w B P bs false) (hB : B ≤ w.heap.size) (HC : Hid (∀ w', Below w.heap.size w w' → Calls Tryz.prog 28 #[.agg #[.int .u8 op, .int .i64 A, .int .i64 B', .slice o n cap]] w' fun r w'' => r = .returned (.int .i64 0) ∧ Below w'.heap.size w' w'')) :
  Calls Tryz.prog 15 #[.pointer (some ⟨P, 0, none⟩), .agg #[.int .u8 op, .int .i64 A, .int .i64 B', .slice o n cap]] w fun r w' => r = .returned (.int .i64 0) ∧ NS w' B P bs false ∧ Below B w w' ∧ NK P w w' := by
 go_enter Tryz.func15, Tryz.ntmps15
 go_wp2_with fail
 refine (HC.out _ ((Below.refl _ _).alloc (Nat.le_refl _) _)).mono ?_
 rintro e w1 ⟨rfl, b1⟩
 have b01 : Below w.heap.size w w1 := ((Below.refl _ _).alloc (Nat.le_refl _) _).trans (b1.mono (by simp))
 have HN1 : Hid (NS w1 B P bs false) := h.under b01
 have hc1 := HN1.out.cells
 have xX : XS w1 w.heap.size (.int .u8 op) (.int .i64 A) (.int .i64 B') (.slice o n cap) := by
  unfold XS
  rw [b1.block w.heap.size (by simp)]
  exact new_block _ _
 obtain ⟨x0, x1, x2, x3⟩ := xX.cell
 have hB1 : B ≤ w1.heap.size := Nat.le_trans hB b01.size
 have HB1 : Hid (Below B w w1) := b01.mono hB
 have HK1 : Hid (NK P w w1) := NK.of_below b01 h.lt
 clear xX b1 b01 h
 go_wp2
 go_ret
 exact ⟨rfl, HN1.out, HB1.out, HK1.out⟩
theorem step_anyK (P B : Nat) (bs : List Int) (en : Bool) (op A B' c : Int) (o : Option Addr) (n cap : Nat) (w : World) (h : NS w B P bs en) (hl : bs.length ≤ 12) (hB : B ≤ w.heap.size) (HC : ∀ w', Below w.heap.size w w' → Calls Tryz.prog 28 #[.agg #[.int .u8 op, .int .i64 A, .int .i64 B', .slice o n cap]] w' fun r w'' => r = .returned (.int .i64 c) ∧ Below w'.heap.size w' w'') :
  Calls Tryz.prog 15 #[.pointer (some ⟨P, 0, none⟩), .agg #[.int .u8 op, .int .i64 A, .int .i64 B', .slice o n cap]] w fun r w' => r = .returned (.int .i64 (nStep c op bs en).1) ∧ NS w' B P (nStep c op bs en).2.1 (nStep c op bs en).2.2 ∧ Below B w w' ∧ NK P w w' := by
 unfold nStep
 by_cases hc : c = 0
 ·subst hc
  rw [if_neg (by simp)]
  cases en with
  | true =>
   rw [if_pos rfl]
   refine (step_ended P B bs op A B' o n cap w h hB HC).mono ?_
   rintro r w1 ⟨rfl, b1, b2⟩
   exact ⟨rfl, h.under b1, b2, NK.of_below b1 h.lt⟩
  | false =>
   rw [if_neg (by simp)]
   have hent : ∀ (k : Int) w', NS w' B P bs false → B ≤ w'.heap.size → Calls Tryz.prog 29 #[.pointer (some ⟨P, 0, none⟩), .int .u8 k] w' fun r w'' => r = .returned (.int .i64 (if bs.length = 12 then ((7 : Int), bs, false) else (0, bs ++ [k], false)).1) ∧ NS w'' B P (if bs.length = 12 then ((7 : Int), bs, false) else (0, bs ++ [k], false)).2.1 (if bs.length = 12 then ((7 : Int), bs, false) else (0, bs ++ [k], false)).2.2 ∧ Below B w' w'' ∧ NK P w' w'' := by
    intro k w' hn hb
    by_cases h12 : bs.length = 12
    ·rw [if_pos h12]
     refine (enter_full P B bs false k w' hn h12).mono ?_
     rintro r w1 ⟨rfl, rfl⟩
     exact ⟨rfl, hn, Below.refl _ _, NK.refl _ _⟩
    ·rw [if_neg h12]
     exact enter_ok P B bs false k w' hn (by omega) hb
   by_cases h2 : op = 2
   ·subst h2
    rw [if_pos (Or.inl rfl)]
    exact step_2 P B bs _ _ _ A B' o n cap w h hB HC (hent 2)
   by_cases h3 : op = 3
   ·subst h3
    rw [if_pos (Or.inr (Or.inl rfl))]
    exact step_3 P B bs _ _ _ A B' o n cap w h hB HC (hent 3)
   by_cases h4 : op = 4
   ·subst h4
    rw [if_pos (Or.inr (Or.inr rfl))]
    exact step_4 P B bs _ _ _ A B' o n cap w h hB HC (hent 4)
   rw [if_neg (by omega)]
   by_cases h5 : op = 5
   ·subst h5
    rw [if_pos rfl]
    refine step_5 P B bs _ _ _ A B' o n cap w h hB HC fun w' hn => ?_
    rcases List.eq_nil_or_concat bs with rfl | ⟨ini, x, rfl⟩
    ·refine (turn_nil P B false w' hn).mono ?_
     rintro r w1 ⟨rfl, rfl⟩
     exact ⟨rfl, hn, Below.refl _ _, NK.refl _ _⟩
    ·have hli : ini.length < 1000 := by simp at hl; omega
     rw [List.concat_eq_append] at hn ⊢
     have e : (ini ++ [x]).getLast? = some x := by simp
     rw [e, List.dropLast_concat]
     by_cases hx : x = 4
     ·subst hx
      exact turn_ok P B ini hli false w' hn
     ·have : (match some x with | some 4 => ((0 : Int), ini ++ [5], false) | _ => (4, ini ++ [x], false)) = (4, ini ++ [x], false) := by
       split
       ·rename_i heq
        simp only [Option.some.injEq] at heq
        exact absurd heq hx
       ·rfl
      rw [this]
      refine (turn_bad P B ini x hx hli false w' hn).mono ?_
      rintro r w1 ⟨rfl, rfl⟩
      exact ⟨rfl, hn, Below.refl _ _, NK.refl _ _⟩
   rw [if_neg h5]
   by_cases h11 : op = 11
   ·subst h11
    rw [if_pos rfl]
    rcases List.eq_nil_or_concat bs with rfl | ⟨ini, x, rfl⟩
    ·exact step_11 P B [] [] true A B' o n cap w h hB HC fun w' hn => leave_nil P B false w' hn
    ·have hli : ini.length < 1000 := by simp at hl; omega
     rw [List.concat_eq_append] at h ⊢
     have : (match ini ++ [x] with | [] => ((0 : Int), [], true) | _ :: _ => (0, (ini ++ [x]).dropLast, false)) = (0, ini, false) := by
      rw [List.dropLast_concat]
      cases ini <;> rfl
     rw [this]
     exact step_11 P B (ini ++ [x]) ini false A B' o n cap w h hB HC fun w' hn => leave_ok P B ini x hli false w' hn
   rw [if_neg h11]
   have ne : ∀ k : Int, op ≠ k → (op == k) = false := fun k hk => by rw [beq_eq_false_iff_ne]; exact hk
   exact step_plain P B bs op A B' o n cap (ne 2 h2) (ne 3 h3) (ne 4 h4) (ne 5 h5) (ne 11 h11) w h hB HC
 ·rw [if_pos hc]
  refine (step_err P B op A B' o n cap c (by rw [beq_eq_false_iff_ne]; exact hc) w hB HC).mono ?_
  rintro r w1 ⟨rfl, b1, b2⟩
  exact ⟨rfl, h.under b1, b2, NK.of_below b1 h.lt⟩
theorem step_any (P B : Nat) (bs : List Int) (en : Bool) (op A B' c : Int) (o : Option Addr) (n cap : Nat) (w : World) (h : NS w B P bs en) (hl : bs.length ≤ 12) (hB : B ≤ w.heap.size) (HC : ∀ w', Below w.heap.size w w' → Calls Tryz.prog 28 #[.agg #[.int .u8 op, .int .i64 A, .int .i64 B', .slice o n cap]] w' fun r w'' => r = .returned (.int .i64 c) ∧ Below w'.heap.size w' w'') :
  Calls Tryz.prog 15 #[.pointer (some ⟨P, 0, none⟩), .agg #[.int .u8 op, .int .i64 A, .int .i64 B', .slice o n cap]] w fun r w' => r = .returned (.int .i64 (nStep c op bs en).1) ∧ NS w' B P (nStep c op bs en).2.1 (nStep c op bs en).2.2 ∧ Below B w w' :=
 (step_anyK P B bs en op A B' c o n cap w h hl hB HC).mono fun _ _ h => ⟨h.1, h.2.1, h.2.2.1⟩
end Go.Proofs.YtkceplamaocmmaaGreatDoor
namespace Go.Proofs.YtkceplamaocmmaaGreatDoor
open Go.RowKit
structure InsD where
 op : Int
 A : Int
 B : Int
 o : Option Addr
 n : Nat
 cap : Nat
 xs : List Int
structure InsD.ok (w : World) (d : InsD) : Prop where
 op0 : 0 ≤ d.op
 op1 : d.op ≤ 255
 a : -9223372036854775808 ≤ d.A ∧ d.A ≤ 9223372036854775807
 cap : d.n ≤ d.cap
 most : d.cap ≤ maxLen
 lj : LJ w d.o d.n d.xs
 nil : d.o = none → d.cap = 0
theorem InsD.ok.below {w w' : World} {d : InsD} (h : d.ok w) (b : Below w.heap.size w w') : d.ok w' := ⟨h.op0, h.op1, h.a, h.cap, h.most, h.lj.below b, h.nil⟩
def LD (w : World) (o : Option Addr) (L : List InsD) : Prop := (∀ d ∈ L, d.ok w) ∧ (L = [] ∨ ∃ b f, o = some ⟨b, f, none⟩ ∧ b < w.heap.size ∧ ∀ i (h : i < L.length), w.cell? ⟨b, f + i * 4, none⟩ = some (.int .u8 (L[i]).op) ∧ w.cell? ⟨b, f + i * 4 + 1, none⟩ = some (.int .i64 (L[i]).A) ∧ w.cell? ⟨b, f + i * 4 + 2, none⟩ = some (.int .i64 (L[i]).B) ∧ w.cell? ⟨b, f + i * 4 + 3, none⟩ = some (.slice (L[i]).o (L[i]).n (L[i]).cap))
theorem LD.below {w w' : World} {o : Option Addr} {L : List InsD} (h : LD w o L) (b : Below w.heap.size w w') : LD w' o L := by
 obtain ⟨h1, h2⟩ := h
 refine ⟨fun d hd => (h1 d hd).below b, ?_⟩
 rcases h2 with h2 | ⟨bb, f, e, hb, hc⟩
 ·exact Or.inl h2
 ·refine Or.inr ⟨bb, f, e, Nat.lt_of_lt_of_le hb b.size, fun i hi => ?_⟩
  rw [b.cell (p := ⟨bb, f + i * 4, none⟩) hb, b.cell (p := ⟨bb, f + i * 4 + 1, none⟩) hb, b.cell (p := ⟨bb, f + i * 4 + 2, none⟩) hb, b.cell (p := ⟨bb, f + i * 4 + 3, none⟩) hb]
  exact hc i hi
def chkD (d : InsD) : Int := chkV d.op d.A d.B d.n d.xs
def nRun : List InsD → List Int → Bool → Int × List Int × Bool
 | [], bs, en => (0, bs, en)
 | d :: L, bs, en => if (nStep (chkD d) d.op bs en).1 = 0 then nRun L (nStep (chkD d) d.op bs en).2.1 (nStep (chkD d) d.op bs en).2.2 else nStep (chkD d) d.op bs en
def nChk (L : List InsD) : Int := if 200 < L.length then 2 else if (nRun L [] false).1 = 0 then (if (nRun L [] false).2.2 = true then 0 else 3) else (nRun L [] false).1
theorem nStep_len (c op : Int) (bs : List Int) (en : Bool) (h : bs.length ≤ 12) : (nStep c op bs en).2.1.length ≤ 12 := by
 unfold nStep
 split
 ·exact h
 split
 ·exact h
 split
 ·split
  ·exact h
  ·simp; omega
 split
 ·split
  ·rename_i hl
   have hne : bs ≠ [] := by intro e; subst e; simp at hl
   have : 0 < bs.length := List.length_pos_iff.2 hne
   simp; omega
  ·exact h
 split
 ·split
  ·simp
  ·simp at h ⊢; omega
 ·exact h
theorem ncheck_large (o : Option Addr) (n cap : Nat) (_hn : 200 < n) (w : World) :
  Calls Tryz.prog 7 #[.slice o n cap] w fun r w' => r = .returned (.int .i64 2) ∧ w' = w := by
 go_enter Tryz.func7, Tryz.ntmps7
 go_wp2
 go_ret
 exact ⟨rfl, rfl⟩
theorem ncheck_few (o : Option Addr) (cap n : Nat) (L : List InsD) (R : Int × List Int × Bool) (hl : L.length = n) (hn : n ≤ 200) (w : World) (h : LD w o L) (HR0 : Hid (nRun L [] false = R))
  (HCK : Hid (∀ d ∈ L, ∀ w', Below w.heap.size w w' → Calls Tryz.prog 28 #[.agg #[.int .u8 d.op, .int .i64 d.A, .int .i64 d.B, .slice d.o d.n d.cap]] w' fun r w'' => r = .returned (.int .i64 (chkD d)) ∧ Below w'.heap.size w' w'')) :
  Calls Tryz.prog 7 #[.slice o n cap] w fun r w' => r = .returned (.int .i64 (if R.1 = 0 then (if R.2.2 = true then 0 else 3) else R.1)) ∧ Below w.heap.size w w' := by
 obtain ⟨V, hV⟩ : ∃ V, (if R.1 = 0 then (if R.2.2 = true then (0 : Int) else 3) else R.1) = V := ⟨_, rfl⟩
 rw [hV]
 have HV : Hid ((if R.1 = 0 then (if R.2.2 = true then (0 : Int) else 3) else R.1) = V) := hV
 clear hV
 have HLn : Hid (L.length = n) := hl
 have HLD : Hid (LD w o L) := h
 have HN0 : Hid (NS (w.alloc (.cells #[.slice none 0 0, .bool false] 39)) w.heap.size w.heap.size [] false) := ⟨none, 0, new_block _ _, World.ownsRow_nil _ _ _ _, by simp, Nat.le_refl _⟩
 have HB0 : Hid (Below w.heap.size w (w.alloc (.cells #[.slice none 0 0, .bool false] 39))) := (Below.refl _ _).alloc (Nat.le_refl _) _
 clear hl h
 have hni : (n : Int) ≤ 200 := by omega
 go_enter Tryz.func7, Tryz.ntmps7
 go_wp2
 go_loopw [12] (fun i wr => ∃ k : Nat, ∃ bs : List Int, ∃ en : Bool, i = .int .i64 k ∧ k ≤ n ∧ bs.length ≤ 12 ∧ Hid (NS wr w.heap.size w.heap.size bs en) ∧ Hid (nRun (L.drop k) bs en = R) ∧ Hid (Below w.heap.size w wr)) (fun i _ => n - (intOf i).toNat)
 case atStart => exact ⟨0, [], false, rfl, by omega, by simp, HN0, HR0, HB0⟩
 case round =>
  obtain ⟨k, bs, en, rfl, hk, hbs, HN, HR, HB⟩ := hrel
  clear HN0 HB0 HR0
  have hw : w.heap.size < wr.heap.size := HN.out.lt
  by_cases hlt : k < n
  ·have hkl : k < L.length := by rw [HLn.out]; exact hlt
   have hdr : L.drop k = L[k] :: L.drop (k + 1) := List.drop_eq_getElem_cons hkl
   have hmem : L[k] ∈ L := List.getElem_mem hkl
   rcases HLD.out.2 with h0 | ⟨b, f, rfl, hbw, hc⟩
   ·exfalso; rw [h0] at hkl; simp at hkl
   obtain ⟨m0, m1, m2, m3⟩ := hc k hkl
   have HCd := HCK.out _ hmem
   have HR1 := HR.out
   rw [hdr, nRun] at HR1
   have e0 := HB.out.cell (p := ⟨b, f + k * 4, none⟩) hbw
   have e1 := HB.out.cell (p := ⟨b, f + k * 4 + 1, none⟩) hbw
   have e2 := HB.out.cell (p := ⟨b, f + k * 4 + 2, none⟩) hbw
   have e3 := HB.out.cell (p := ⟨b, f + k * 4 + 3, none⟩) hbw
   rw [m0] at e0
   rw [m1] at e1
   rw [m2] at e2
   rw [m3] at e3
   generalize L[k] = d at e0 e1 e2 e3 HCd HR1
   clear hc m0 m1 m2 m3 hdr hmem HR
   have hlen := nStep_len (chkD d) d.op bs en hbs
   have HST : Hid (∀ w', NS w' w.heap.size w.heap.size bs en → Below w.heap.size w w' → Calls Tryz.prog 15 #[.pointer (some ⟨w.heap.size, 0, none⟩), .agg #[.int .u8 d.op, .int .i64 d.A, .int .i64 d.B, .slice d.o d.n d.cap]] w' fun r w'' => r = .returned (.int .i64 (nStep (chkD d) d.op bs en).1) ∧ NS w'' w.heap.size w.heap.size (nStep (chkD d) d.op bs en).2.1 (nStep (chkD d) d.op bs en).2.2 ∧ Below w.heap.size w' w'') := fun w' hn hb => step_any w.heap.size w.heap.size bs en d.op d.A d.B (chkD d) d.o d.n d.cap w' hn hbs hb.size (fun w2 b2 => HCd w2 (hb.trans (b2.mono hb.size)))
   have HR2 : Hid (type_of% HR1) := HR1
   clear HCd HR1
   obtain ⟨⟨r0, bs2, en2⟩, hs⟩ : ∃ m, nStep (chkD d) d.op bs en = m := ⟨_, rfl⟩
   rw [hs] at HST HR2 hlen
   dsimp only at HST HR2 hlen
   clear hs
   have hki0 : (0 : Int) ≤ (k : Int) := by omega
   have hki1 : (k : Int) < (n : Int) := by omega
   go_wp2_with fail
   refine (HST.out _ (HN.out.under ((Below.refl _ _).alloc (Nat.le_refl _) _)) (HB.out.alloc (by omega) _)).mono ?_
   rintro e w2 ⟨rfl, n2, b2⟩
   have HN2 : Hid (type_of% n2) := n2
   have HB2 : Hid (Below w.heap.size w w2) := (HB.out.alloc (by omega) _).trans b2
   clear n2 b2 HST HN HB e0 e1 e2 e3
   by_cases hr0 : r0 = 0
   ·subst hr0
    have HR3 : Hid (nRun (L.drop (k + 1)) bs2 en2 = R) := by
     have := HR2.out
     rw [if_pos rfl] at this
     exact this
    clear HR2
    go_wp2
    go_roundw
    case rel => exact ⟨k + 1, bs2, en2, by go_num, by omega, hlen, HN2, HR3, HB2⟩
    case measure => simp [intOf]; omega
   ·have hb0 : (r0 == 0) = false := by rw [beq_eq_false_iff_ne]; exact hr0
    have hn0 : (r0 != 0) = true := by rw [bne, hb0]; rfl
    have HR3 : Hid ((r0, bs2, en2) = R) := by
     have := HR2.out
     rw [if_neg hr0] at this
     exact this
    clear HR2
    go_wp2
    go_ret
    refine ⟨?_, HB2.out⟩
    have := HV.out
    rw [← HR3.out, if_neg hr0] at this
    rw [← this]
    rfl
  ·have HR3 : Hid (((0 : Int), bs, en) = R) := by
    have := HR.out
    rw [List.drop_eq_nil_of_le (by rw [HLn.out]; omega), nRun] at this
    exact this
   have hc1 := HN.out.cells
   clear HR
   cases en
   ·go_wp2
    go_ret
    refine ⟨?_, HB.out⟩
    have := HV.out
    rw [← HR3.out] at this
    rw [← this]
    rfl
   ·go_wp2
    go_ret
    refine ⟨?_, HB.out⟩
    have := HV.out
    rw [← HR3.out] at this
    rw [← this]
    rfl
theorem ncheck_any (o : Option Addr) (cap : Nat) (L : List InsD) (w : World) (h : LD w o L) (hT : TabIn w) (ht0 : 0 < w.heap.size) :
  Calls Tryz.prog 7 #[.slice o L.length cap] w fun r w' => r = .returned (.int .i64 (nChk L)) ∧ Below w.heap.size w w' := by
 unfold nChk
 by_cases hn : 200 < L.length
 ·rw [if_pos hn]
  refine (ncheck_large o L.length cap hn w).mono ?_
  rintro r w1 ⟨rfl, rfl⟩
  exact ⟨rfl, Below.refl _ _⟩
 ·rw [if_neg hn]
  refine ncheck_few o cap L.length L _ rfl (by omega) w h rfl fun d hd w' b => ?_
  have hk := h.1 d hd
  have hm := hk.most
  have hc := hk.cap
  unfold maxLen at hm
  exact check_any d.op d.A d.B d.o d.n d.cap d.xs hk.op0 hk.op1 hk.cap (by omega) w' (hk.lj.below b) (hT.chg (P := w.heap.size) (Chg.of_below b) ht0 (by omega)) (Nat.lt_of_lt_of_le ht0 b.size)
end Go.Proofs.YtkceplamaocmmaaGreatDoor
