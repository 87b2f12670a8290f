/-
  What place, bytesOf and Store do.
-/
import Derived.Test.YtomiganjagjabaaMM6
import Derived.Test.YtomiganjagjabaaMM5
namespace Go.Proofs.Ytomiganjagjabaa
open Go.RowKit

theorem wp_loadX {P : Program} {w : World} {ops : Array Oper} {rest : List Oper} {o : Oper} {a : Act} {Q : Exit → Act → World → Prop} (hgd : o.guard = none) (x : Operand) (t : TypeId) (ho : o.op = .load t x)
    (vx : Value) (hx : a.eval x = vx) (p : Value) (hr : (Instr.loadAt t vx).run P w = .ok p w) (h : wpList P ops Q rest (a.put o.dst p) w) : wpList P ops Q (o :: rest) a w := by
  refine wpList_plain hgd fun K hK => ?_
  unfold Oper.wp
  simp [execOp, ho, hx, hr, Result.andThen]
  exact hK _ _ h
theorem wp_storeX {P : Program} {w : World} {ops : Array Oper} {rest : List Oper} {o : Oper} {a : Act} {Q : Exit → Act → World → Prop} (hgd : o.guard = none) (x y : Operand) (t : TypeId) (ho : o.op = .store t x y)
    (vx vy : Value) (hx : a.eval x = vx) (hy : a.eval y = vy) (w' : World) (hr : (Instr.storeAt t vx vy).run P w = .ok () w') (h : wpList P ops Q rest (a.put o.dst undef) w') : wpList P ops Q (o :: rest) a w := by
  refine wpList_plain hgd fun K hK => ?_
  unfold Oper.wp
  simp [execOp, ho, hx, hy, hr, Result.andThen]
  exact hK _ _ h
/-- The eight bytes of a number, the lowest first. -/
def by8 (v : Nat) : List Int := (List.range 8).map fun i => ((v / 2 ^ (8 * i) % 256 : Nat) : Int)
/-- The first k of them, and zeros. -/
def byK (v k : Nat) : List Int := (List.range 8).map fun i => if i < k then ((v / 2 ^ (8 * i) % 256 : Nat) : Int) else 0
theorem byK_len (v k : Nat) : (byK v k).length = 8 := by simp [byK]
theorem byK_zero (v : Nat) : byK v 0 = List.replicate 8 0 := by simp [byK]; rfl
theorem byK_all (v : Nat) : byK v 8 = by8 v := by
  unfold byK by8
  apply List.map_congr_left
  intro i hi
  rw [if_pos (List.mem_range.1 hi)]
theorem byK_set (v k : Nat) (hk : k < 8) : (byK v k).set k ((v / 2 ^ (8 * k) % 256 : Nat) : Int) = byK v (k + 1) := by
  apply List.ext_getElem?
  intro i
  rw [List.getElem?_set]
  by_cases hi : i < 8
  · by_cases e : k = i
    · subst e
      simp [byK, hk]
    · have : (i < k + 1) = (i < k) := by
        have : i ≠ k := fun h => e h.symm
        apply propext
        omega
      simp [byK, hi, e, this]
  · have e : ¬ k = i := by omega
    rw [if_neg e, List.getElem?_eq_none (by rw [byK_len]; omega), List.getElem?_eq_none (by rw [byK_len]; omega)]
theorem by8_bts (v : Nat) : Bts (by8 v) := by
  intro x hx
  obtain ⟨i, _, rfl⟩ := List.mem_map.1 hx
  omega
theorem mul8 (x y : Operand) (k : Nat) (hk : k < 8) (w : World) : (do eqGuard .mul 3 x y (.int .i64 8) (.int .i64 (k : Int)); binOp .mul 3 (.int .i64 8) (.int .i64 (k : Int)) : Sem Value).run Try.prog w = .ok (.int .i64 ((8 * k : Nat) : Int)) w := by
  simp [go_sem]
  rw [IntKind.wrap_i64, Int.emod_eq_of_lt (by omega) (by omega)]
  omega
theorem shr8 (x y : Operand) (v k : Nat) (_hk : k ≤ 64) (w : World) : (do eqGuard .shr 60 x y (.int .u64 (v : Int)) (.int .i64 (k : Int)); binOp .shr 60 (.int .u64 (v : Int)) (.int .i64 (k : Int)) : Sem Value).run Try.prog w = .ok (.int .u64 ((v / 2 ^ k : Nat) : Int)) w := by
  simp [go_sem]
theorem conv8 (v : Nat) (w : World) : (convert 60 5 (.int .u64 (v : Int))).run Try.prog w = .ok (.int .u8 ((v % 256 : Nat) : Int)) w := by
  simp [go_sem]
  rw [IntKind.wrap_u8]
/-- Eight bytes in a block of their own. -/
def A8 (w : World) (Q : Nat) (l : List Int) : Prop := w.heap[Q]? = some (.cells (bC l).toArray 59 (0, 0)) ∧ l.length = 8
theorem A8.c {w : World} {Q : Nat} {l : List Int} (h : A8 w Q l) (k : Nat) (hk : k < 8) : w.cell? ⟨Q, k, none⟩ = some (.int .u8 (l.getD k 0)) := by
  have : k < l.length := by rw [h.2]; exact hk
  simp [World.cell?, h.1, this]
theorem A8.f {w : World} {Q : Nat} {l : List Int} (h : A8 w Q l) (k : Nat) : w.frozen? ⟨Q, k, none⟩ = false := by
  simp [World.frozen?, h.1]
theorem A8.set {w : World} {Q : Nat} {l : List Int} (h : A8 w Q l) (k : Nat) (x : Int) : A8 (w.setCell ⟨Q, k, none⟩ (.int .u8 x)) Q (l.set k x) := by
  refine ⟨?_, by rw [List.length_set]; exact h.2⟩
  simp [World.setCell, Array.getElem?_modify, h.1, List.map_set]
theorem A8.load {w : World} {Q : Nat} {l : List Int} (h : A8 w Q l) : (Instr.loadAt 59 (.pointer (some ⟨Q, 0, none⟩))).run Try.prog w = .ok (.agg (bC l).toArray) w := by
  have hl := run_loadCells_list (P := Try.prog) w ⟨Q, 0, none⟩ (bC l) (fun j v hv => by
    have := row_cell (w := w) h.1 0 8 j v (by rw [List.drop_zero, List.take_of_length_le (by rw [h.2]; omega)]; exact hv)
    exact this)
  have e : (bC l).length = 8 := by rw [List.length_map]; exact h.2
  rw [e] at hl
  simp only [Instr.loadAt, Instr.sureAddr, loadVar, Sem.run_bind, Sem.run_pure, Result.andThen_ok, Try.isAgg59, Try.sizeOf59, if_true, hl]
theorem A8.store {w : World} {Q : Nat} {l d : List Int} (h : A8 w Q l) (hd : d.length = 8) : (Instr.storeAt 59 (.pointer (some ⟨Q, 0, none⟩)) (.agg (bC d).toArray)).run Try.prog w = .ok () (w.setRow Q (bC d).toArray) := by
  have e : (bC d).length = 8 := by rw [List.length_map]; exact hd
  have hs := run_storeCells_at Try.prog Q 0 59 (bC d) 0 (bC l).toArray w h.1 (by simp [h.2, hd]) (bC_one d)
  have e2 : ((bC l).toArray.toList.take (0 + 0) ++ bC d ++ (bC l).toArray.toList.drop (0 + 0 + (bC d).length)).toArray = (bC d).toArray := by
    simp [h.2, hd]
  rw [e2] at hs
  have e3 : ¬ ((bC d).toArray.size ≠ 8) := by simp [hd]
  simp only [Instr.storeAt, Instr.sureAddr, storeVar, Sem.run_bind, Sem.run_pure, Result.andThen_ok, Try.sizeOf59]
  have e4 : (Value.agg (bC d).toArray).cells = (bC d).toArray := rfl
  rw [e4]
  split
  · rename_i h5; exact absurd h5 e3
  · exact hs
theorem A8.row {w : World} {Q : Nat} {l d : List Int} (h : A8 w Q l) (hd : d.length = 8) : A8 (w.setRow Q (bC d).toArray) Q d := ⟨setRow_heap w Q _ _ _ _ h.1, hd⟩
theorem A8.new (w : World) : A8 (w.alloc (.cells #[.int .u8 0, .int .u8 0, .int .u8 0, .int .u8 0, .int .u8 0, .int .u8 0, .int .u8 0, .int .u8 0] 59)) w.heap.size (List.replicate 8 0) := ⟨heap_alloc_new w _, rfl⟩
set_option maxHeartbeats 1000000 in
set_option maxRecDepth 1000000 in
theorem bytesOf_any (v : Nat) (w : World) :
    Calls Try.prog 36 #[.int .u64 (v : Int)] w fun r w' => r = .returned (.agg (bC (by8 v)).toArray) ∧ Below w.heap.size w w' := by
  go_enter Try.func36, Try.ntmps36
  go_wp2
  go_loopw [5] (fun iv wr => ∃ k : Nat, iv = .int .i64 (k : Int) ∧ k ≤ 8 ∧ Hid (A8 wr (w.heap.size + 1) (byK v k)) ∧ Hid (A8 wr w.heap.size (List.replicate 8 0)) ∧ Hid (Below w.heap.size w wr)) (fun iv _ => 8 - (intOf iv).toNat)
  case atStart =>
    refine ⟨0, rfl, by omega, ?_, ?_, ?_⟩
    · have := A8.new (w.alloc (.cells #[.int .u8 0, .int .u8 0, .int .u8 0, .int .u8 0, .int .u8 0, .int .u8 0, .int .u8 0, .int .u8 0] 59))
      rw [World.size_alloc] at this
      rw [byK_zero]
      exact this
    · refine ⟨?_, rfl⟩
      rw [Below.heap_alloc _ _ _ (by rw [World.size_alloc]; omega)]
      exact (A8.new w).1
    · exact ((Below.refl _ _).alloc (Nat.le_refl _) _).alloc (by rw [World.size_alloc]; omega) _
  case round =>
    obtain ⟨k, rfl, hk, HA, HZ, HB⟩ := hrel
    by_cases hkl : k < 8
    · have hk1 : (k : Int) < 8 := by omega
      have hk0 : (0 : Int) ≤ (k : Int) := by omega
      have hc := HA.out.c k hkl
      have hf := HA.out.f k
      have HMU : Hid (∀ x y, type_of% (mul8 x y k hkl wr)) := fun x y => mul8 x y k hkl wr
      have HSH : Hid (∀ x y, type_of% (shr8 x y v (8 * k) (by omega) wr)) := fun x y => shr8 x y v (8 * k) (by omega) wr
      have HCV : Hid (type_of% (conv8 (v / 2 ^ (8 * k)) wr)) := conv8 (v / 2 ^ (8 * k)) wr
      have HN : Hid (A8 (wr.setCell ⟨w.heap.size + 1, k, none⟩ (.int .u8 ((v / 2 ^ (8 * k) % 256 : Nat) : Int))) (w.heap.size + 1) (byK v (k + 1))) := by
        have := HA.out.set k ((v / 2 ^ (8 * k) % 256 : Nat) : Int)
        rw [byK_set v k hkl] at this
        exact this
      have HZ2 : Hid (A8 (wr.setCell ⟨w.heap.size + 1, k, none⟩ (.int .u8 ((v / 2 ^ (8 * k) % 256 : Nat) : Int))) w.heap.size (List.replicate 8 0)) := by
        refine ⟨?_, rfl⟩
        rw [Below.heap_setCell _ ⟨w.heap.size + 1, k, none⟩ _ w.heap.size (by show w.heap.size ≠ w.heap.size + 1; omega)]
        exact HZ.out.1
      have HB2 : Hid (Below w.heap.size w (wr.setCell ⟨w.heap.size + 1, k, none⟩ (.int .u8 ((v / 2 ^ (8 * k) % 256 : Nat) : Int)))) := HB.out.setCell (p := ⟨w.heap.size + 1, k, none⟩) (by show w.heap.size ≤ w.heap.size + 1; omega) _
      obtain ⟨y, hy⟩ : ∃ y : Nat, y = v / 2 ^ (8 * k) % 256 := ⟨_, rfl⟩
      obtain ⟨z, hz⟩ : ∃ z : Nat, z = v / 2 ^ (8 * k) := ⟨_, rfl⟩
      obtain ⟨j, hj⟩ : ∃ j : Nat, j = 8 * k := ⟨_, rfl⟩
      rw [← hy] at HN HZ2 HB2
      rw [← hy, ← hz] at HCV
      rw [← hj] at HMU
      rw [← hz, ← hj] at HSH
      have HK1 : Hid (k + 1 ≤ 8) := hkl
      have HK2 : Hid (8 - (k + 1) < 8 - k) := by unfold Hid; omega
      clear hy hz hj HA HZ HB
      go_wp2_with (first | (refine wp_binX rfl .mul 3 3 (.const (.int .i64 8)) (.tmp 10) rfl _ _ rfl rfl _ (HMU.out _ _) ?_) | (refine wp_binX rfl .shr 60 3 (.tmp 9) (.tmp 11) rfl _ _ rfl rfl _ (HSH.out _ _) ?_) | (refine wp_convX rfl (.tmp 12) 60 5 rfl _ rfl _ _ HCV.out ?_))
      go_roundw
      case rel => exact ⟨k + 1, rfl, HK1.out, HN, HZ2, HB2⟩
      case measure => exact HK2.out
    · have hk1 : ¬ ((k : Int) < 8) := by omega
      obtain rfl : k = 8 := by omega
      rw [byK_all] at HA
      have hl : (by8 v).length = 8 := by rw [← byK_all, byK_len]
      have HL : Hid (type_of% HA.out.load) := HA.out.load
      have HS : Hid (type_of% (HZ.out.store hl)) := HZ.out.store hl
      obtain ⟨W, hW⟩ : ∃ W, W = wr.setRow w.heap.size (bC (by8 v)).toArray := ⟨_, rfl⟩
      have HR : Hid (type_of% ((HZ.out.row hl).load)) := (HZ.out.row hl).load
      have HBW : Hid (Below w.heap.size w (wr.setRow w.heap.size (bC (by8 v)).toArray)) := below_setRow HB.out (Nat.le_refl _) _
      rw [← hW] at HS HR HBW
      clear hW HZ HA
      go_wp2_with (first | (refine wp_loadX rfl (.tmp 3) 59 rfl _ rfl _ HL.out ?_) | (refine wp_storeX rfl (.tmp 2) (.tmp 16) 59 rfl _ _ rfl rfl _ HS.out ?_))
      refine bodyPost_ret (v := .agg (bC (by8 v)).toArray) ?_ rfl ⟨rfl, HBW.out⟩
      have := HR.out
      simp only [Instr.loadAt, Instr.sureAddr, Sem.run_bind, Sem.run_pure, Result.andThen_ok] at this
      simp [results, Try.results36, asAddr, this]
/-- Where a load or a store goes: what is wrong with it. -/
def plE (K base off wd : Int) : Int := if off < 0 ∨ 4294967295 < off then 1 else if K < base % 4294967296 + off + wd then 23 else 0
set_option maxHeartbeats 1000000 in
set_option maxRecDepth 1000000 in
theorem place_any (P g n : Nat) (most : Int) (b : List Int) (base off : Int) (wd : Nat) (hwd : wd ≤ 8) (w : World) (h : MB w P g n most b) :
    Calls Try.prog 28 #[.pointer (some ⟨P, 0, none⟩), .int .i64 base, .int .i64 off, .int .i64 (wd : Int)] w fun r w' => w' = w ∧ ((plE b.length base off wd ≠ 0 ∧ r = .returned (.tuple #[.int .i64 0, .int .i64 (plE b.length base off wd)])) ∨ (plE b.length base off wd = 0 ∧ r = .returned (.tuple #[.int .i64 (base % 4294967296 + off), .int .i64 0]))) := by
  have hl : b.length ≤ 2048 := by have := h.len; have := h.n8; omega
  by_cases h1 : off < 0
  · have HE : Hid (plE b.length base off wd = 1) := by unfold Hid plE; rw [if_pos (Or.inl h1)]
    go_enter Try.func28, Try.ntmps28
    go_wp2
    go_ret2
    refine ⟨rfl, Or.inl ⟨?_, ?_⟩⟩
    · rw [HE.out]; decide
    · rw [HE.out]; rfl
  by_cases h2 : 4294967295 < off
  · have HE : Hid (plE b.length base off wd = 1) := by unfold Hid plE; rw [if_pos (Or.inr h2)]
    go_enter Try.func28, Try.ntmps28
    go_wp2
    go_ret2
    refine ⟨rfl, Or.inl ⟨?_, ?_⟩⟩
    · rw [HE.out]; decide
    · rw [HE.out]; rfl
  obtain ⟨u, hu, hu2⟩ := u32_of base
  obtain ⟨p, hp⟩ : ∃ p : Int, p = (u : Int) + off := ⟨_, rfl⟩
  have HH := mhas_any P g n most b p wd (by omega) w h
  by_cases h3 : (b.length : Int) < p + wd
  · have HE : Hid (plE b.length base off wd = 23) := by
      unfold Hid plE
      rw [if_neg (by omega), hu, if_pos (by omega)]
    have hh : hasB b.length p wd = false := by unfold hasB; exact decide_eq_false (by omega)
    rw [hh, hp] at HH
    clear h hl hp h3 hh
    go_enter Try.func28, Try.ntmps28
    go_wp2_with (go_at_call 38; refine HH.mono ?_; rintro r w1 ⟨rfl, rfl⟩)
    go_ret2
    refine ⟨rfl, Or.inl ⟨?_, ?_⟩⟩
    · rw [HE.out]; decide
    · rw [HE.out]; rfl
  · have HE : Hid (plE b.length base off wd = 0) := by
      unfold Hid plE
      rw [if_neg (by omega), hu, if_neg (by omega)]
    have hh : hasB b.length p wd = true := by unfold hasB; exact decide_eq_true (by omega)
    rw [hh, hp] at HH
    have HP : Hid (base % 4294967296 + off = (u : Int) + off) := by unfold Hid; omega
    clear h hl hp h3 hh
    go_enter Try.func28, Try.ntmps28
    go_wp2_with (go_at_call 38; refine HH.mono ?_; rintro r w1 ⟨rfl, rfl⟩)
    go_ret2
    refine ⟨rfl, Or.inr ⟨HE.out, ?_⟩⟩
    rw [HP.out]
    rfl
end Go.Proofs.Ytomiganjagjabaa
