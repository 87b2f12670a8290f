/-
 slices.Concat of two lists of kinds, and the program's own andNumber.
 slices.ContainsFunc over an instruction's numbers, and slices.Equal of kinds.
 The program's own isSkew.
-/
import Derived.Test.YtlfihndbnaaodaaGreatDoorIVE
import Derived.Test.YtlfihndbnaaodaaGreatDoorIVO
import Derived.Lib.AppendZeros
set_option maxHeartbeats 4000000
set_option maxRecDepth 1000000
namespace Go.Proofs.YtlfihndbnaaodaaGreatDoor
open Go.RowKit
set_option linter.unusedVariables false
theorem wpList_append_zeros {P : Program} {w : World} {ops : Array Oper} {rest : List Oper} {o : Oper} {a : Act} {Q : Exit → Act → World → Prop} (hgd : o.guard = none) (s x : Operand) (t tn : TypeId)
  (ho : o.op = .call { callee := .builtin .append, args := #[s, x], argTypes := #[t, tn] })
  (e : TypeId) (i : TypeInfo) (z : Value) (kn : IntKind) (ht : P.underlying t = some (.slice e)) (htn : P.underlying tn = some (.int kn)) (hi : P.info? e = some i) (hz : i.zero = some z) (hzs : z.cells.size = i.size)
  (n : Nat) (hs : a.eval s = .slice none 0 0) (hx : a.eval x = .int .i64 (n : Int)) (h0 : 0 < n) (hsz : 0 < i.size) (h63 : n ≤ 1000000) (h48 : i.bytes ≤ 1000)
  (h : ∀ cap w', n ≤ cap → w'.ownsRow w.heap.size e i.size (.slice (some ⟨w.heap.size, 0, none⟩) 0 cap) 0 [] → Below w.heap.size w w' → cap ≤ maxLen → wpList P ops Q rest (a.put o.dst (.slice (some ⟨w.heap.size, 0, none⟩) n cap)) w') : wpList P ops Q (o :: rest) a w := by
 refine wpList_plain hgd fun K hK => ?_
 have hb : n * i.bytes ≤ 1000000 * 1000 := Nat.mul_le_mul h63 h48
 have hrun := Lib.run_append_nil_zeros (P := P) w t tn o.type e i z .i64 kn ht htn hi hz n h0 hsz (by omega) (by omega)
 have hc : n ≤ grownCap w n 0 e := grownCap_ge w n 0 e
 have hm : grownCap w n 0 e ≤ maxLen := grownCap_le_maxLen w n 0 e (by unfold maxLen; omega)
 unfold Oper.wp
 simp [execOp, ho, resolve, invoke, builtin, hs, hx, hrun, Result.andThen]
 refine hK _ _ (h _ _ hc ?_ ?_ hm)
 ·refine ⟨by simp, Or.inr ⟨w.heap.size, _, _, rfl, Nat.le_refl _, new_block _ _, Nat.zero_le _, hm, ?_, by simp⟩⟩
  rw [Array.size_append]
  simp only [Builtin.zeroCells, Array.size_map, Array.size_range, hzs]
  rw [← Nat.add_mul]
  congr 1
  omega
 ·exact ((Below.refl _ _).drew).alloc (Nat.le_refl _) _
theorem vgrow (n : Nat) (h0 : 0 < n) (hn : n ≤ 1000000) (w : World) :
  Calls Tryz.prog 75 #[.slice none 0 0, .int .i64 (n : Int)] w fun r w' => ∃ cap, r = .returned (.slice (some ⟨w.heap.size, 0, none⟩) 0 cap) ∧ w'.ownsRow w.heap.size 69 1 (.slice (some ⟨w.heap.size, 0, none⟩) 0 cap) 0 [] ∧ Below w.heap.size w w' := by
 obtain ⟨i0, hi, hz0, hz1, hz2⟩ := info_parts infoKd
 have hneg : decide ((n : Int) < 0) = false := decide_eq_false (by omega)
 have hpos : decide ((0 : Int) < (n : Int)) = true := decide_eq_true (by omega)
 go_enter Tryz.func75, Tryz.ntmps75
 go_wp2_with (at_builtin; refine wpList_append_zeros rfl _ _ 41 3 rfl 69 i0 (.int .u8 0) .i64 Tryz.underlying41 Tryz.underlying3 hi hz0 (by rw [hz1]; rfl) n rfl rfl h0 (by rw [hz1]; omega) hn (by rw [hz2]; omega) ?_)
 intro cap w2 hcap hown hb hm
 have HO : Hid (type_of% hown) := hown
 have HB : Hid (type_of% hb) := hb
 unfold maxLen at hm
 clear hown hb
 go_wp2
 go_ret
 exact ⟨cap, rfl, HO.out, HB.out⟩
theorem vgrow0 (w : World) : Calls Tryz.prog 75 #[.slice none 0 0, .int .i64 0] w fun r w' => r = .returned (.slice none 0 0) ∧ w' = w := by
 go_enter Tryz.func75, Tryz.ntmps75
 go_wp2
 go_ret
 exact ⟨rfl, rfl⟩
theorem vgrow_any (n : Nat) (x : Int) (hx : x = (n : Int)) (hn : n ≤ 1000000) (w : World) :
  Calls Tryz.prog 75 #[.slice none 0 0, .int .i64 x] w fun r w' => ∃ (o : Option Addr) (cap : Nat), r = .returned (.slice o 0 cap) ∧ w'.ownsRow w.heap.size 69 1 (.slice o 0 cap) 0 [] ∧ Below w.heap.size w w' := by
 subst hx
 rcases Nat.eq_zero_or_pos n with rfl | h0
 ·refine (vgrow0 w).mono ?_
  rintro r w' ⟨rfl, rfl⟩
  exact ⟨none, 0, rfl, World.ownsRow_nil _ _ _ _, Below.refl _ _⟩
 ·refine (vgrow n h0 hn w).mono ?_
  rintro r w' ⟨cap, rfl, h1, h2⟩
  exact ⟨_, cap, rfl, h1, h2⟩
theorem wpList_append_num {w : World} {ops : Array Oper} {rest : List Oper} {o : Oper} {a : Act} {Q : Exit → Act → World → Prop} (hgd : o.guard = none) (s x : Operand)
  (ho : o.op = .call { callee := .builtin .append, args := #[s, x], argTypes := #[41, 41] })
  (B : Nat) (oo : Option Addr) (n cap : Nat) (xs : List Int) (hs : a.eval s = .slice oo n cap) (hown : w.ownsRow B 69 1 (.slice oo n cap) n (xs.map (Value.int .u8))) (d : NumD) (hx : a.eval x = .slice d.o d.n d.cap) (hd : d.ok .u8 w) (hn : n ≤ 1000000) (hdn : d.n ≤ 1000000) (hB : B ≤ w.heap.size)
  (h : ∀ oo' cap' w', w'.ownsRow B 69 1 (.slice oo' (n + d.n) cap') (n + d.n) ((xs ++ d.xs).map (Value.int .u8)) → Below B w w' → wpList Tryz.prog ops Q rest (a.put o.dst (.slice oo' (n + d.n) cap')) w') : wpList Tryz.prog ops Q (o :: rest) a w := by
 obtain ⟨i0, hi, hz0, hz1, hz2⟩ := info_parts infoKd
 have hl := hd.len
 have hcap : n ≤ cap := by
  rcases hown.2 with ⟨h1, h2⟩ | ⟨g, c, cur, h1, _, _, h2, _⟩
  ·omega
  ·simp only [Value.slice.injEq] at h1
   omega
 rcases Nat.eq_zero_or_pos d.n with hz | hz
 ·have hxs : d.xs = [] := by rw [hz] at hl; exact List.length_eq_zero_iff.1 hl
  rw [hz] at hx
  refine wpList_append_nil hgd s x _ ho 69 i0 Tryz.underlying41 hi oo n cap hs hcap d.o d.cap hx ?_
  have := h oo cap w (by rw [hz, hxs, List.append_nil, Nat.add_zero]; exact hown) (Below.refl _ _)
  rw [hz, Nat.add_zero] at this
  exact this
 ·rcases hd.at1 (Nat.le_refl _) with hx0 | ⟨b, f, h1, h2, h3⟩
  ·rw [hx0] at hl
   simp at hl
   omega
  ·rw [h1] at hx
   refine wpList_append_lies w hgd s x _ ho B 69 i0 (.int .u8 0) 1 1 Tryz.underlying41 hi hz0 hz1 hz2 rfl (by omega) _ n _ hs hown ⟨b, f, none⟩ d.n d.cap (d.xs.map (Value.int .u8)) hx (by rw [List.length_map, Nat.mul_one]; exact hl) (fun j u hj => ?_) (by intro u hu; obtain ⟨y, _, rfl⟩ := List.mem_map.1 hu; rfl) hz (by unfold maxLen; omega) (by omega) hB w.heap.size rfl ?_
   ·have hadd : (⟨b, f, none⟩ : Addr).add j = ⟨b, f + j, none⟩ := by unfold Addr.add; split <;> simp_all
    rw [List.getElem?_map] at hj
    rcases hlj : d.xs[j]? with _ | y
    ·rw [hlj] at hj; cases hj
    ·rw [hlj] at hj
     obtain ⟨hlt, hy⟩ := List.getElem?_eq_some_iff.1 hlj
     have := h3 j hlt 0 (by omega)
     rw [Nat.mul_one, Nat.add_zero] at this
     rw [hadd, this, hy]
     exact hj
   ·intro g capg w3 hown3 hgrow _ _
    exact h _ _ w3 (by rw [List.map_append]; exact hown3) ((Below.refl _ _).grown hgrow hB (fun j hj => (hown.lt j hj).1))
theorem vconcat (X : Nat) (d1 d2 : NumD) (w : World) (hX : X < w.heap.size) (x0 : w.cell? ⟨X, 0, none⟩ = some (.slice d1.o d1.n d1.cap)) (x1 : w.cell? ⟨X, 1, none⟩ = some (.slice d2.o d2.n d2.cap)) (hd1 : d1.ok .u8 w) (hd2 : d2.ok .u8 w) (hn1 : d1.n ≤ 1000) (hn2 : d2.n ≤ 1000) :
  Calls Tryz.prog 46 #[.slice (some ⟨X, 0, none⟩) 2 2] w fun r w' => ∃ (o : Option Addr) (cap : Nat), r = .returned (.slice o (d1.n + d2.n) cap) ∧ w'.ownsRow w.heap.size 69 1 (.slice o (d1.n + d2.n) cap) (d1.n + d2.n) ((d1.xs ++ d2.xs).map (Value.int .u8)) ∧ Below w.heap.size w w' := by
 have HX : Hid (X < w.heap.size ∧ w.cell? ⟨X, 0, none⟩ = some (.slice d1.o d1.n d1.cap) ∧ w.cell? ⟨X, 1, none⟩ = some (.slice d2.o d2.n d2.cap)) := ⟨hX, x0, x1⟩
 have HD : Hid (d1.ok .u8 w ∧ d2.ok .u8 w) := ⟨hd1, hd2⟩
 clear hd1 hd2 hX
 go_enter Tryz.func46, Tryz.ntmps46
 go_wp2
 go_loopw [3, 11] (fun sv iv wr => ∃ j : Nat, iv = .int .i64 (j : Int) ∧ j ≤ 2 ∧ Hid (wr = w) ∧ Hid (sv = .int .i64 (if j = 0 then 0 else if j = 1 then (d1.n : Int) else (d1.n : Int) + (d2.n : Int)))) (fun _ iv _ => 2 - (intOf iv).toNat)
 case atStart => exact ⟨0, rfl, by omega, rfl, rfl⟩
 case round =>
  obtain ⟨j, rfl, hj, HW, HSV⟩ := hrel
  have hw := HW.out.symm
  subst hw
  obtain rfl | rfl | rfl : j = 0 ∨ j = 1 ∨ j = 2 := by omega
  ·have hsv := HSV.out
   rw [if_pos rfl] at hsv
   subst hsv
   have hng : decide ((d1.n : Int) < 0) = false := decide_eq_false (by omega)
   clear HSV
   go_wp2
   go_roundw
   case rel => exact ⟨1, rfl, by omega, trivial, by simp [Hid]⟩
   case measure => simp [intOf]
  ·have hsv := HSV.out
   rw [if_neg (by omega), if_pos rfl] at hsv
   subst hsv
   have hng : decide ((d1.n : Int) + (d2.n : Int) < 0) = false := decide_eq_false (by omega)
   clear HSV
   go_wp2
   go_roundw
   case rel => exact ⟨2, rfl, by omega, trivial, by simp [Hid]⟩
   case measure => simp [intOf]
  ·have hsv := HSV.out
   rw [if_neg (by omega), if_neg (by omega)] at hsv
   subst hsv
   clear HSV
   go_wp2_with fail
   refine (vgrow_any (d1.n + d2.n) _ (by push_cast; rfl) (by omega) _).mono ?_
   rintro r w1 ⟨o1, c1, rfl, ho1, hb1⟩
   have HO1 : Hid (type_of% ho1) := ho1
   have HB1 : Hid (type_of% hb1) := hb1
   clear ho1 hb1 x0 x1
   go_wp2
   go_loopw [6, 27] (fun v iv wr => ∃ (j : Nat) (o : Option Addr) (n cap : Nat) (xs : List Int), iv = .int .i64 (j : Int) ∧ j ≤ 2 ∧ v = .slice o n cap ∧ Hid (wr.ownsRow w.heap.size 69 1 (.slice o n cap) n (xs.map (Value.int .u8))) ∧ Hid (Below w.heap.size w wr) ∧ Hid ((j = 0 → n = 0 ∧ xs = []) ∧ (j = 1 → n = d1.n ∧ xs = d1.xs) ∧ (j = 2 → n = d1.n + d2.n ∧ xs = d1.xs ++ d2.xs))) (fun _ iv _ => 2 - (intOf iv).toNat)
   case atStart => exact ⟨0, o1, 0, c1, [], rfl, by omega, rfl, HO1, HB1, ⟨fun _ => ⟨rfl, rfl⟩, fun h => by omega, fun h => by omega⟩⟩
   case round =>
    clear HO1 HB1
    obtain ⟨j, o, n, cap, xs, rfl, hj, rfl, HO, HB, HJ⟩ := hrel
    have y0 : wr.cell? ⟨X, 0, none⟩ = some (.slice d1.o d1.n d1.cap) := (HB.out.cell (p := ⟨X, 0, none⟩) HX.out.1).trans HX.out.2.1
    have y1 : wr.cell? ⟨X, 1, none⟩ = some (.slice d2.o d2.n d2.cap) := (HB.out.cell (p := ⟨X, 1, none⟩) HX.out.1).trans HX.out.2.2
    obtain rfl | rfl | rfl : j = 0 ∨ j = 1 ∨ j = 2 := by omega
    ·obtain ⟨rfl, rfl⟩ := HJ.out.1 rfl
     go_wp2_with (at_builtin; refine wpList_append_num rfl _ _ rfl w.heap.size o 0 cap [] rfl HO.out d1 rfl (HD.out.1.below HB.out) (by omega) (by omega) HB.out.size ?_)
     intro o2 c2 w2 ho2 hb2
     have HO2 : Hid (type_of% ho2) := ho2
     have HB2 : Hid (Below w.heap.size w w2) := HB.out.trans hb2
     clear ho2 hb2
     go_wp2
     go_roundw
     case rel => exact ⟨1, o2, _, c2, _, rfl, by omega, rfl, HO2, HB2, ⟨fun h => by omega, fun _ => ⟨by omega, by simp⟩, fun h => by omega⟩⟩
     case measure => simp [intOf]
    ·obtain ⟨rfl, rfl⟩ := HJ.out.2.1 rfl
     go_wp2_with (at_builtin; refine wpList_append_num rfl _ _ rfl w.heap.size o d1.n cap d1.xs rfl HO.out d2 rfl (HD.out.2.below HB.out) (by omega) (by omega) HB.out.size ?_)
     intro o2 c2 w2 ho2 hb2
     have HO2 : Hid (type_of% ho2) := ho2
     have HB2 : Hid (Below w.heap.size w w2) := HB.out.trans hb2
     clear ho2 hb2
     go_wp2
     go_roundw
     case rel => exact ⟨2, o2, _, c2, d1.xs ++ d2.xs, rfl, by omega, rfl, (by unfold Hid; rw [List.map_append]; exact HO2.out), HB2, ⟨fun h => by omega, fun h => by omega, fun _ => ⟨rfl, rfl⟩⟩⟩
     case measure => simp [intOf]
    ·obtain ⟨rfl, rfl⟩ := HJ.out.2.2 rfl
     go_wp2
     go_ret
     exact ⟨o, cap, rfl, by have := HO.out; rw [List.map_append] at this; exact this, HB.out⟩
theorem num_of_own {w : World} {B : Nat} {o : Option Addr} {n cap : Nat} {xs : List Int} (h : w.ownsRow B 69 1 (.slice o n cap) n (xs.map (Value.int .u8))) (hw : ∀ x ∈ xs, (Lit.int .u8 x).wf = true) : (⟨o, n, cap, xs⟩ : NumD).ok .u8 w ∧ (n = 0 ∨ ∃ a : Addr, o = some a ∧ B ≤ a.block) := by
 have hl : xs.length = n := by have := h.1; rw [List.length_map, Nat.mul_one] at this; exact this
 rcases h.2 with ⟨h1, h2⟩ | ⟨g, c, cur, h1, hb, hg, h3, h4, h5, h6⟩
 ·simp only [Value.slice.injEq] at h1
  obtain ⟨rfl, _, rfl⟩ := h1
  exact ⟨⟨by show n ≤ 0; omega, Nat.zero_le _, hl, fun _ => rfl, hw, Or.inl h2⟩, Or.inl h2⟩
 ·simp only [Value.slice.injEq] at h1
  obtain ⟨rfl, _, rfl⟩ := h1
  refine ⟨⟨h3, h4, hl, fun e => (by cases e), hw, Or.inr ⟨⟨g, 0, none⟩, rfl, some_lt hg, fun i hi => ?_⟩⟩, Or.inr ⟨_, rfl, hb⟩⟩
  have hi : i < n := hi
  have hadd : (⟨g, 0, none⟩ : Addr).add i = ⟨g, i, none⟩ := by unfold Addr.add; split <;> simp_all
  rw [hadd, h.cellAt i (by omega), List.getElem?_map, List.getElem?_eq_getElem (by omega)]
  simp [List.getD_eq_getElem?_getD, List.getElem?_eq_getElem (show i < xs.length by omega)]
theorem vandNumber (d : NumD) (w : World) (hd : d.ok .u8 w) (hn : d.n ≤ 999) :
  Calls Tryz.prog 134 #[.slice d.o d.n d.cap] w fun r w' => ∃ d' : NumD, r = .returned (.slice d'.o d'.n d'.cap) ∧ newN w w' d' (d.xs ++ [127]) ∧ d'.n = d.n + 1 ∧ Below w.heap.size w w' := by
 have hb1 : Below w.heap.size w (w.alloc (.cells #[.int .u8 127] 69)) := (Below.refl _ _).alloc (Nat.le_refl _) _
 have hb2 : Below w.heap.size w ((w.alloc (.cells #[.int .u8 127] 69)).alloc (.cells #[.slice d.o d.n d.cap, .slice (some ⟨w.heap.size, 0, none⟩) 1 1] 41)) := hb1.alloc (by simp) _
 have hk := (newN_one w 127 (by omega) (by omega)).2.1.below ((Below.refl _ _).alloc (Nat.le_refl _) (.cells #[.slice d.o d.n d.cap, .slice (some ⟨w.heap.size, 0, none⟩) 1 1] 41))
 have hX := new_block (w.alloc (.cells #[.int .u8 127] 69)) (.cells #[.slice d.o d.n d.cap, .slice (some ⟨w.heap.size, 0, none⟩) 1 1] 41)
 have hsz : (w.alloc (.cells #[.int .u8 127] 69)).heap.size = w.heap.size + 1 := by simp
 rw [hsz] at hX
 have HC : Hid (type_of% (vconcat (w.heap.size + 1) d ⟨some ⟨w.heap.size, 0, none⟩, 1, 1, [127]⟩ ((w.alloc (.cells #[.int .u8 127] 69)).alloc (.cells #[.slice d.o d.n d.cap, .slice (some ⟨w.heap.size, 0, none⟩) 1 1] 41)) (by simp) (cell_at hX 0 rfl) (cell_at hX 1 rfl) (hd.below hb2) hk (by omega) (by simp))) := vconcat (w.heap.size + 1) d ⟨some ⟨w.heap.size, 0, none⟩, 1, 1, [127]⟩ ((w.alloc (.cells #[.int .u8 127] 69)).alloc (.cells #[.slice d.o d.n d.cap, .slice (some ⟨w.heap.size, 0, none⟩) 1 1] 41)) (by simp) (cell_at hX 0 rfl) (cell_at hX 1 rfl) (hd.below hb2) hk (by omega) (by simp)
 have HB2 : Hid (type_of% hb2) := hb2
 have HW : Hid (∀ x ∈ d.xs ++ [127], (Lit.int .u8 x).wf = true) := by
  intro x hx
  rcases List.mem_append.1 hx with hx | hx
  ·exact hd.wf x hx
  ·rw [List.mem_singleton] at hx; rw [hx]; exact wf_u8 (by omega) (by omega)
 clear hb1 hb2 hk hX hd hsz
 go_enter Tryz.func134, Tryz.ntmps134
 go_wp2_with fail
 refine HC.out.mono ?_
 rintro r w1 ⟨o, cap, rfl, ho, hb⟩
 have HN : Hid (type_of% (num_of_own ho HW.out)) := num_of_own ho HW.out
 have HB3 : Hid (Below w.heap.size w w1) := HB2.out.trans (hb.mono HB2.out.size)
 have HS : Hid (w.heap.size ≤ ((w.alloc (.cells #[.int .u8 127] 69)).alloc (.cells #[.slice d.o d.n d.cap, .slice (some ⟨w.heap.size, 0, none⟩) 1 1] 41)).heap.size) := HB2.out.size
 clear ho hb HC
 go_wp2
 go_ret
 refine ⟨⟨o, d.n + 1, cap, d.xs ++ [127]⟩, rfl, ⟨rfl, HN.out.1, ?_⟩, rfl, HB3.out⟩
 rcases HN.out.2 with h | ⟨a, ha, hb⟩
 ·exact Or.inl h
 ·exact Or.inr ⟨a, ha, Nat.le_trans HS.out hb⟩
end Go.Proofs.YtlfihndbnaaodaaGreatDoor
namespace Go.Proofs.YtlfihndbnaaodaaGreatDoor
open Go.RowKit
set_option linter.unusedVariables false
theorem index_there (X : Nat) (p : Int → Bool) (so : Option Addr) (n cap : Nat) (xs : List Int) (w : World) (hl : xs.length = n) (hcap : n ≤ cap) (hcm : cap ≤ 9223372036854775807) (hat : xs = [] ∨ ∃ b f, so = some ⟨b, f, none⟩ ∧ b < w.heap.size ∧ ∀ i (h : i < xs.length), w.cell? ⟨b, f + i, none⟩ = some (.int .i64 xs[i]))
  (HF : Hid (∀ w', Below w.heap.size w w' → ∀ x ∈ xs, Calls Tryz.prog 79 #[.int .i64 x, .pointer (some ⟨X, 0, none⟩)] w' fun r w'' => r = .returned (.bool (p x)) ∧ Below w'.heap.size w' w'')) :
  Calls Tryz.prog 129 #[.slice so n cap, .func (.func 79) #[] #[.pointer (some ⟨X, 0, none⟩)]] w fun r w' => ∃ z : Int, r = .returned (.int .i64 z) ∧ decide (0 ≤ z) = xs.any p ∧ Below w.heap.size w w' := by
 have HAT : Hid (type_of% hat) := hat
 have HL : Hid (xs.length = n) := hl
 clear hat hl
 go_enter Tryz.func129, Tryz.ntmps129
 go_wp2
 go_loopw [8] (fun iv wr => ∃ j : Nat, iv = .int .i64 (j : Int) ∧ j ≤ n ∧ Hid ((xs.take j).any p = false) ∧ Hid (Below w.heap.size w wr)) (fun iv _ => n - (intOf iv).toNat)
 case atStart => exact ⟨0, rfl, by omega, rfl, Below.refl _ _⟩
 case round =>
  obtain ⟨j, rfl, hj, HA, HB⟩ := hrel
  by_cases hlt : j < n
  ·have hx : j < xs.length := by rw [HL.out]; exact hlt
   have HXL : Hid (j < xs.length) := hx
   obtain ⟨b, f, rfl, hbN, hcl⟩ := HAT.out.resolve_left (fun e => by rw [e] at hx; exact absurd hx (by simp))
   have e0 : wr.cell? ⟨b, f + j, none⟩ = some (.int .i64 xs[j]) := by
    rw [HB.out.cell (p := ⟨b, f + j, none⟩) hbN]
    exact hcl j hx
   have HC : Hid (type_of% (HF.out wr HB.out xs[j] (List.getElem_mem hx))) := HF.out wr HB.out xs[j] (List.getElem_mem hx)
   generalize hd : xs[j] = d at e0 HC
   have HDE : Hid (xs[j]'HXL.out = d) := hd
   have hki0 : (0 : Int) ≤ (j : Int) := by omega
   have hki1 : (j : Int) < (n : Int) := by omega
   clear hcl hx hd
   go_wp2_with fail
   refine HC.out.mono ?_
   rintro r w2 ⟨rfl, hb2⟩
   have HB2 : Hid (Below w.heap.size w w2) := HB.out.trans (hb2.mono HB.out.size)
   clear hb2 e0 HC
   rcases hp : p d with _ | _
   ·have HA2 : Hid ((xs.take (j + 1)).any p = false) := any_snoc _ _ _ HXL.out HA.out (by rw [HDE.out]; exact hp)
    go_wp2
    go_roundw
    case rel => exact ⟨j + 1, by go_num, by omega, HA2, HB2⟩
    case measure => simp [intOf]; omega
   ·have HA2 : Hid (xs.any p = true) := by
     unfold Hid
     rw [List.any_eq_true]
     exact ⟨xs[j]'HXL.out, List.getElem_mem _, by rw [HDE.out]; exact hp⟩
    go_wp2
    refine bodyPost_ret (results_tmp rfl _ _ _) rfl ?_
    exact ⟨(j : Int), rfl, by rw [HA2.out]; exact decide_eq_true hki0, HB2.out⟩
  ·have HA2 : Hid (xs.any p = false) := by
    have h := HA.out
    rw [List.take_of_length_le (by rw [HL.out]; omega)] at h
    exact h
   go_wp2
   go_ret
   exact ⟨-1, rfl, by rw [HA2.out]; rfl, HB.out⟩
theorem contains_there (X : Nat) (p : Int → Bool) (so : Option Addr) (n cap : Nat) (xs : List Int) (w : World) (hl : xs.length = n) (hcap : n ≤ cap) (hcm : cap ≤ 9223372036854775807) (hat : xs = [] ∨ ∃ b f, so = some ⟨b, f, none⟩ ∧ b < w.heap.size ∧ ∀ i (h : i < xs.length), w.cell? ⟨b, f + i, none⟩ = some (.int .i64 xs[i]))
  (HF : Hid (∀ w', Below w.heap.size w w' → ∀ x ∈ xs, Calls Tryz.prog 79 #[.int .i64 x, .pointer (some ⟨X, 0, none⟩)] w' fun r w'' => r = .returned (.bool (p x)) ∧ Below w'.heap.size w' w'')) :
  Calls Tryz.prog 78 #[.slice so n cap, .func (.func 79) #[] #[.pointer (some ⟨X, 0, none⟩)]] w fun r w' => r = .returned (.bool (xs.any p)) ∧ Below w.heap.size w w' := by
 have HI : Hid (type_of% (index_there X p so n cap xs w hl hcap hcm hat HF)) := index_there X p so n cap xs w hl hcap hcm hat HF
 clear hat HF hl
 go_enter Tryz.func78, Tryz.ntmps78
 go_wp2_with fail
 refine HI.out.mono ?_
 rintro r w1 ⟨z, rfl, hz, hb⟩
 have HZ : Hid (decide (0 ≤ z) = xs.any p) := hz
 have HB : Hid (type_of% hb) := hb
 clear hz hb HI
 go_wp2
 go_ret
 exact ⟨by rw [HZ.out]; rfl, HB.out⟩
theorem index_allowed (X Y : Nat) (p : Int → Bool) (so : Option Addr) (n cap : Nat) (xs : List Int) (w : World) (hl : xs.length = n) (hcap : n ≤ cap) (hcm : cap ≤ 9223372036854775807) (hat : xs = [] ∨ ∃ b f, so = some ⟨b, f, none⟩ ∧ b < w.heap.size ∧ ∀ i (h : i < xs.length), w.cell? ⟨b, f + i, none⟩ = some (.int .i64 xs[i]))
  (HF : Hid (∀ w', Below w.heap.size w w' → ∀ x ∈ xs, Calls Tryz.prog 87 #[.int .i64 x, .pointer (some ⟨X, 0, none⟩), .pointer (some ⟨Y, 0, none⟩)] w' fun r w'' => r = .returned (.bool (p x)) ∧ Below w'.heap.size w' w'')) :
  Calls Tryz.prog 129 #[.slice so n cap, .func (.func 87) #[] #[.pointer (some ⟨X, 0, none⟩), .pointer (some ⟨Y, 0, none⟩)]] w fun r w' => ∃ z : Int, r = .returned (.int .i64 z) ∧ decide (0 ≤ z) = xs.any p ∧ Below w.heap.size w w' := by
 have HAT : Hid (type_of% hat) := hat
 have HL : Hid (xs.length = n) := hl
 clear hat hl
 go_enter Tryz.func129, Tryz.ntmps129
 go_wp2
 go_loopw [8] (fun iv wr => ∃ j : Nat, iv = .int .i64 (j : Int) ∧ j ≤ n ∧ Hid ((xs.take j).any p = false) ∧ Hid (Below w.heap.size w wr)) (fun iv _ => n - (intOf iv).toNat)
 case atStart => exact ⟨0, rfl, by omega, rfl, Below.refl _ _⟩
 case round =>
  obtain ⟨j, rfl, hj, HA, HB⟩ := hrel
  by_cases hlt : j < n
  ·have hx : j < xs.length := by rw [HL.out]; exact hlt
   have HXL : Hid (j < xs.length) := hx
   obtain ⟨b, f, rfl, hbN, hcl⟩ := HAT.out.resolve_left (fun e => by rw [e] at hx; exact absurd hx (by simp))
   have e0 : wr.cell? ⟨b, f + j, none⟩ = some (.int .i64 xs[j]) := by
    rw [HB.out.cell (p := ⟨b, f + j, none⟩) hbN]
    exact hcl j hx
   have HC : Hid (type_of% (HF.out wr HB.out xs[j] (List.getElem_mem hx))) := HF.out wr HB.out xs[j] (List.getElem_mem hx)
   generalize hd : xs[j] = d at e0 HC
   have HDE : Hid (xs[j]'HXL.out = d) := hd
   have hki0 : (0 : Int) ≤ (j : Int) := by omega
   have hki1 : (j : Int) < (n : Int) := by omega
   clear hcl hx hd
   go_wp2_with fail
   refine HC.out.mono ?_
   rintro r w2 ⟨rfl, hb2⟩
   have HB2 : Hid (Below w.heap.size w w2) := HB.out.trans (hb2.mono HB.out.size)
   clear hb2 e0 HC
   rcases hp : p d with _ | _
   ·have HA2 : Hid ((xs.take (j + 1)).any p = false) := any_snoc _ _ _ HXL.out HA.out (by rw [HDE.out]; exact hp)
    go_wp2
    go_roundw
    case rel => exact ⟨j + 1, by go_num, by omega, HA2, HB2⟩
    case measure => simp [intOf]; omega
   ·have HA2 : Hid (xs.any p = true) := by
     unfold Hid
     rw [List.any_eq_true]
     exact ⟨xs[j]'HXL.out, List.getElem_mem _, by rw [HDE.out]; exact hp⟩
    go_wp2
    refine bodyPost_ret (results_tmp rfl _ _ _) rfl ?_
    exact ⟨(j : Int), rfl, by rw [HA2.out]; exact decide_eq_true hki0, HB2.out⟩
  ·have HA2 : Hid (xs.any p = false) := by
    have h := HA.out
    rw [List.take_of_length_le (by rw [HL.out]; omega)] at h
    exact h
   go_wp2
   go_ret
   exact ⟨-1, rfl, by rw [HA2.out]; rfl, HB.out⟩
theorem contains_allowed (X Y : Nat) (p : Int → Bool) (so : Option Addr) (n cap : Nat) (xs : List Int) (w : World) (hl : xs.length = n) (hcap : n ≤ cap) (hcm : cap ≤ 9223372036854775807) (hat : xs = [] ∨ ∃ b f, so = some ⟨b, f, none⟩ ∧ b < w.heap.size ∧ ∀ i (h : i < xs.length), w.cell? ⟨b, f + i, none⟩ = some (.int .i64 xs[i]))
  (HF : Hid (∀ w', Below w.heap.size w w' → ∀ x ∈ xs, Calls Tryz.prog 87 #[.int .i64 x, .pointer (some ⟨X, 0, none⟩), .pointer (some ⟨Y, 0, none⟩)] w' fun r w'' => r = .returned (.bool (p x)) ∧ Below w'.heap.size w' w'')) :
  Calls Tryz.prog 78 #[.slice so n cap, .func (.func 87) #[] #[.pointer (some ⟨X, 0, none⟩), .pointer (some ⟨Y, 0, none⟩)]] w fun r w' => r = .returned (.bool (xs.any p)) ∧ Below w.heap.size w w' := by
 have HI : Hid (type_of% (index_allowed X Y p so n cap xs w hl hcap hcm hat HF)) := index_allowed X Y p so n cap xs w hl hcap hcm hat HF
 clear hat HF hl
 go_enter Tryz.func78, Tryz.ntmps78
 go_wp2_with fail
 refine HI.out.mono ?_
 rintro r w1 ⟨z, rfl, hz, hb⟩
 have HZ : Hid (decide (0 ≤ z) = xs.any p) := hz
 have HB : Hid (type_of% hb) := hb
 clear hz hb HI
 go_wp2
 go_ret
 exact ⟨by rw [HZ.out]; rfl, HB.out⟩
theorem vequal (d1 d2 : NumD) (w : World) (h1 : d1.ok .u8 w) (h2 : d2.ok .u8 w) :
  Calls Tryz.prog 88 #[.slice d1.o d1.n d1.cap, .slice d2.o d2.n d2.cap] w fun r w' => r = .returned (.bool (d1.xs == d2.xs)) ∧ Below w.heap.size w w' := by
 have HN1 : Hid (type_of% (h1.at1 (Nat.le_refl _))) := h1.at1 (Nat.le_refl _)
 have HN2 : Hid (type_of% (h2.at1 (Nat.le_refl _))) := h2.at1 (Nat.le_refl _)
 have HL : Hid (d1.xs.length = d1.n ∧ d2.xs.length = d2.n) := ⟨h1.len, h2.len⟩
 have m1 := h1.most
 have m2 := h2.most
 unfold maxLen at m1 m2
 have l1 := h1.le
 have l2 := h2.le
 obtain ⟨o1, n1, c1, xs⟩ := d1
 obtain ⟨o2, n2, c2, ys⟩ := d2
 dsimp only at *
 clear h1 h2
 by_cases hn : n1 = n2
 ·subst hn
  go_enter Tryz.func88, Tryz.ntmps88
  go_wp2
  go_loopw [13] (fun iv wr => ∃ j : Nat, iv = .int .i64 (j : Int) ∧ j ≤ n1 ∧ Hid (xs.take j = ys.take j) ∧ Hid (Below w.heap.size w wr)) (fun iv _ => n1 - (intOf iv).toNat)
  case atStart => exact ⟨0, rfl, by omega, rfl, Below.refl _ _⟩
  case round =>
   obtain ⟨j, rfl, hj, HA, HB⟩ := hrel
   by_cases hlt : j < n1
   ·have hx : j < xs.length := by rw [HL.out.1]; exact hlt
    have hy : j < ys.length := by rw [HL.out.2]; exact hlt
    have HXL : Hid (j < xs.length ∧ j < ys.length) := ⟨hx, hy⟩
    obtain ⟨b, f, rfl, hbN, hcl⟩ := HN1.out.resolve_left (fun e => by rw [e] at hx; exact absurd hx (by simp))
    obtain ⟨b', f', rfl, hbN', hcl'⟩ := HN2.out.resolve_left (fun e => by rw [e] at hy; exact absurd hy (by simp))
    have e0 : wr.cell? ⟨b, f + j, none⟩ = some (.int .u8 xs[j]) := by
     rw [HB.out.cell (p := ⟨b, f + j, none⟩) hbN]
     have := hcl j hx 0 (by omega)
     rw [Nat.mul_one, Nat.add_zero] at this
     exact this
    have e1 : wr.cell? ⟨b', f' + j, none⟩ = some (.int .u8 ys[j]) := by
     rw [HB.out.cell (p := ⟨b', f' + j, none⟩) hbN']
     have := hcl' j hy 0 (by omega)
     rw [Nat.mul_one, Nat.add_zero] at this
     exact this
    generalize hdx : xs[j] = x at e0
    generalize hdy : ys[j] = y at e1
    have HDX : Hid (xs[j]'HXL.out.1 = x ∧ ys[j]'HXL.out.2 = y) := ⟨hdx, hdy⟩
    have hki0 : (0 : Int) ≤ (j : Int) := by omega
    have hki1 : (j : Int) < (n1 : Int) := by omega
    clear hcl hcl' hx hy hdx hdy
    by_cases hxy : x = y
    ·have hb1 : (x == y) = true := by simp [hxy]
     have hb2 : (x != y) = false := by simp [hxy]
     have HA2 : Hid (xs.take (j + 1) = ys.take (j + 1)) := by
      unfold Hid
      rw [List.take_succ_eq_append_getElem HXL.out.1, List.take_succ_eq_append_getElem HXL.out.2, HA.out, HDX.out.1, HDX.out.2, hxy]
     clear hxy
     go_wp2
     go_quiet (fail)
     have HB2 : Hid (Below w.heap.size w (wr.drewN nq)) := HB.out.trans ((below_dN nq).mono HB.out.size)
     generalize wr.drewN nq = w2 at *
     go_wp2
     go_roundw
     case rel => exact ⟨j + 1, by go_num, by omega, HA2, HB2⟩
     case measure => simp [intOf]; omega
    ·have hb1 : (x == y) = false := by simp [hxy]
     have hb2 : (x != y) = true := by simp [hxy]
     have HA2 : Hid ((xs == ys) = false) := by
      unfold Hid
      rw [beq_eq_false_iff_ne]
      intro e
      have := HDX.out
      rw [getElem_congr_coll e] at this
      exact hxy (this.1.symm.trans this.2)
     clear hxy
     go_wp2
     go_quiet (fail)
     have HB2 : Hid (Below w.heap.size w (wr.drewN nq)) := HB.out.trans ((below_dN nq).mono HB.out.size)
     generalize wr.drewN nq = w2 at *
     go_wp2
     refine bodyPost_ret (results_tmp rfl _ _ _) rfl ?_
     exact ⟨by rw [HA2.out]; rfl, HB2.out⟩
   ·have HA2 : Hid ((xs == ys) = true) := by
     have h := HA.out
     rw [List.take_of_length_le (by rw [HL.out.1]; omega), List.take_of_length_le (by rw [HL.out.2]; omega)] at h
     unfold Hid
     rw [h]
     simp
    go_wp2
    go_ret
    exact ⟨by rw [HA2.out]; rfl, HB.out⟩
 ·have hb1 : ((n1 : Int) == (n2 : Int)) = false := by rw [beq_eq_false_iff_ne]; omega
  have hb2 : ((n1 : Int) != (n2 : Int)) = true := by rw [bne, hb1]; rfl
  have HA2 : Hid ((xs == ys) = false) := by
   unfold Hid
   rw [beq_eq_false_iff_ne]
   intro e
   have := HL.out
   rw [e] at this
   omega
  go_enter Tryz.func88, Tryz.ntmps88
  go_wp2
  go_ret
  exact ⟨by rw [HA2.out]; rfl, Below.refl _ _⟩
end Go.Proofs.YtlfihndbnaaodaaGreatDoor
namespace Go.Proofs.YtlfihndbnaaodaaGreatDoor
open Go.RowKit
set_option linter.unusedVariables false
def lgW (n : Int) : Int := if n = 2 then 1 else if n = 4 then 2 else if n = 8 then 3 else 0
def skewK (op a : Int) : Bool := decide (0 < insW op) && decide (lgW (insW op) < a)
theorem vtz_1 (w : World) (hT : TabIn w) : Calls Tryz.prog 84 #[.int .u64 1] w fun r w' => r = .returned (.int .i64 0) ∧ w' = w := by
 have HC : Hid (Calls Tryz.prog 131 #[.int .u64 1] w fun e w' => e = .returned (.int .i64 0) ∧ w' = w) := tz64_any 1 (by decide) w hT
 clear hT
 go_enter Tryz.func84, Tryz.ntmps84
 go_wp2_with fail
 refine HC.out.mono ?_
 rintro r w1 ⟨rfl, rfl⟩
 go_wp2
 go_ret
 exact ⟨rfl, rfl⟩
theorem vskew_1 (op a b : Int) (so : Option Addr) (n cap : Nat) (w : World) (hT : TabIn w) (hg : 1 < w.heap.size) (hW : insW op = 1) :
  Calls Tryz.prog 51 #[.agg #[.int .u8 op, .int .i64 a, .int .i64 b, .slice so n cap]] w fun r w' => r = .returned (.bool (decide (0 < a))) ∧ Below w.heap.size w w' := by
 have hb : Below w.heap.size w (w.alloc (.cells #[.int .u8 op, .int .i64 a, .int .i64 b, .slice so n cap] 53)) := (Below.refl _ _).alloc (Nat.le_refl _) _
 have HT : Hid (∀ m, TabIn ((w.alloc (.cells #[.int .u8 op, .int .i64 a, .int .i64 b, .slice so n cap] 53)).drewN m)) := fun m => hT.of_cells fun j => hb.cell (p := ⟨1, j, none⟩) hg
 have HWd : Hid (type_of% (width_any op (w.alloc (.cells #[.int .u8 op, .int .i64 a, .int .i64 b, .slice so n cap] 53)))) := width_any op _
 rw [hW] at HWd
 have HB : Hid (type_of% hb) := hb
 clear hT hW hb
 go_enter Tryz.func51, Tryz.ntmps51
 go_wp2_with fail
 refine HWd.out.mono ?_
 rintro r w1 ⟨rfl, rfl⟩
 go_wp2_with fail
 go_quiet ((go_at_call 84; exact Calls.quiet_of_same (vtz_1 _ (HT.out _))))
 go_wp2
 go_ret
 exact ⟨rfl, below_drewN HB.out _⟩
theorem vtz_2 (w : World) (hT : TabIn w) : Calls Tryz.prog 84 #[.int .u64 2] w fun r w' => r = .returned (.int .i64 1) ∧ w' = w := by
 have HC : Hid (Calls Tryz.prog 131 #[.int .u64 2] w fun e w' => e = .returned (.int .i64 1) ∧ w' = w) := tz64_any 2 (by decide) w hT
 clear hT
 go_enter Tryz.func84, Tryz.ntmps84
 go_wp2_with fail
 refine HC.out.mono ?_
 rintro r w1 ⟨rfl, rfl⟩
 go_wp2
 go_ret
 exact ⟨rfl, rfl⟩
theorem vskew_2 (op a b : Int) (so : Option Addr) (n cap : Nat) (w : World) (hT : TabIn w) (hg : 1 < w.heap.size) (hW : insW op = 2) :
  Calls Tryz.prog 51 #[.agg #[.int .u8 op, .int .i64 a, .int .i64 b, .slice so n cap]] w fun r w' => r = .returned (.bool (decide (1 < a))) ∧ Below w.heap.size w w' := by
 have hb : Below w.heap.size w (w.alloc (.cells #[.int .u8 op, .int .i64 a, .int .i64 b, .slice so n cap] 53)) := (Below.refl _ _).alloc (Nat.le_refl _) _
 have HT : Hid (∀ m, TabIn ((w.alloc (.cells #[.int .u8 op, .int .i64 a, .int .i64 b, .slice so n cap] 53)).drewN m)) := fun m => hT.of_cells fun j => hb.cell (p := ⟨1, j, none⟩) hg
 have HWd : Hid (type_of% (width_any op (w.alloc (.cells #[.int .u8 op, .int .i64 a, .int .i64 b, .slice so n cap] 53)))) := width_any op _
 rw [hW] at HWd
 have HB : Hid (type_of% hb) := hb
 clear hT hW hb
 go_enter Tryz.func51, Tryz.ntmps51
 go_wp2_with fail
 refine HWd.out.mono ?_
 rintro r w1 ⟨rfl, rfl⟩
 go_wp2_with fail
 go_quiet ((go_at_call 84; exact Calls.quiet_of_same (vtz_2 _ (HT.out _))))
 go_wp2
 go_ret
 exact ⟨rfl, below_drewN HB.out _⟩
theorem vtz_4 (w : World) (hT : TabIn w) : Calls Tryz.prog 84 #[.int .u64 4] w fun r w' => r = .returned (.int .i64 2) ∧ w' = w := by
 have HC : Hid (Calls Tryz.prog 131 #[.int .u64 4] w fun e w' => e = .returned (.int .i64 2) ∧ w' = w) := tz64_any 4 (by decide) w hT
 clear hT
 go_enter Tryz.func84, Tryz.ntmps84
 go_wp2_with fail
 refine HC.out.mono ?_
 rintro r w1 ⟨rfl, rfl⟩
 go_wp2
 go_ret
 exact ⟨rfl, rfl⟩
theorem vskew_4 (op a b : Int) (so : Option Addr) (n cap : Nat) (w : World) (hT : TabIn w) (hg : 1 < w.heap.size) (hW : insW op = 4) :
  Calls Tryz.prog 51 #[.agg #[.int .u8 op, .int .i64 a, .int .i64 b, .slice so n cap]] w fun r w' => r = .returned (.bool (decide (2 < a))) ∧ Below w.heap.size w w' := by
 have hb : Below w.heap.size w (w.alloc (.cells #[.int .u8 op, .int .i64 a, .int .i64 b, .slice so n cap] 53)) := (Below.refl _ _).alloc (Nat.le_refl _) _
 have HT : Hid (∀ m, TabIn ((w.alloc (.cells #[.int .u8 op, .int .i64 a, .int .i64 b, .slice so n cap] 53)).drewN m)) := fun m => hT.of_cells fun j => hb.cell (p := ⟨1, j, none⟩) hg
 have HWd : Hid (type_of% (width_any op (w.alloc (.cells #[.int .u8 op, .int .i64 a, .int .i64 b, .slice so n cap] 53)))) := width_any op _
 rw [hW] at HWd
 have HB : Hid (type_of% hb) := hb
 clear hT hW hb
 go_enter Tryz.func51, Tryz.ntmps51
 go_wp2_with fail
 refine HWd.out.mono ?_
 rintro r w1 ⟨rfl, rfl⟩
 go_wp2_with fail
 go_quiet ((go_at_call 84; exact Calls.quiet_of_same (vtz_4 _ (HT.out _))))
 go_wp2
 go_ret
 exact ⟨rfl, below_drewN HB.out _⟩
theorem vtz_8 (w : World) (hT : TabIn w) : Calls Tryz.prog 84 #[.int .u64 8] w fun r w' => r = .returned (.int .i64 3) ∧ w' = w := by
 have HC : Hid (Calls Tryz.prog 131 #[.int .u64 8] w fun e w' => e = .returned (.int .i64 3) ∧ w' = w) := tz64_any 8 (by decide) w hT
 clear hT
 go_enter Tryz.func84, Tryz.ntmps84
 go_wp2_with fail
 refine HC.out.mono ?_
 rintro r w1 ⟨rfl, rfl⟩
 go_wp2
 go_ret
 exact ⟨rfl, rfl⟩
theorem vskew_8 (op a b : Int) (so : Option Addr) (n cap : Nat) (w : World) (hT : TabIn w) (hg : 1 < w.heap.size) (hW : insW op = 8) :
  Calls Tryz.prog 51 #[.agg #[.int .u8 op, .int .i64 a, .int .i64 b, .slice so n cap]] w fun r w' => r = .returned (.bool (decide (3 < a))) ∧ Below w.heap.size w w' := by
 have hb : Below w.heap.size w (w.alloc (.cells #[.int .u8 op, .int .i64 a, .int .i64 b, .slice so n cap] 53)) := (Below.refl _ _).alloc (Nat.le_refl _) _
 have HT : Hid (∀ m, TabIn ((w.alloc (.cells #[.int .u8 op, .int .i64 a, .int .i64 b, .slice so n cap] 53)).drewN m)) := fun m => hT.of_cells fun j => hb.cell (p := ⟨1, j, none⟩) hg
 have HWd : Hid (type_of% (width_any op (w.alloc (.cells #[.int .u8 op, .int .i64 a, .int .i64 b, .slice so n cap] 53)))) := width_any op _
 rw [hW] at HWd
 have HB : Hid (type_of% hb) := hb
 clear hT hW hb
 go_enter Tryz.func51, Tryz.ntmps51
 go_wp2_with fail
 refine HWd.out.mono ?_
 rintro r w1 ⟨rfl, rfl⟩
 go_wp2_with fail
 go_quiet ((go_at_call 84; exact Calls.quiet_of_same (vtz_8 _ (HT.out _))))
 go_wp2
 go_ret
 exact ⟨rfl, below_drewN HB.out _⟩
theorem vskew_0 (op a b : Int) (so : Option Addr) (n cap : Nat) (w : World) (hW : insW op = 0) :
  Calls Tryz.prog 51 #[.agg #[.int .u8 op, .int .i64 a, .int .i64 b, .slice so n cap]] w fun r w' => r = .returned (.bool false) ∧ Below w.heap.size w w' := by
 have hb : Below w.heap.size w (w.alloc (.cells #[.int .u8 op, .int .i64 a, .int .i64 b, .slice so n cap] 53)) := (Below.refl _ _).alloc (Nat.le_refl _) _
 have HWd : Hid (type_of% (width_any op (w.alloc (.cells #[.int .u8 op, .int .i64 a, .int .i64 b, .slice so n cap] 53)))) := width_any op _
 rw [hW] at HWd
 have HB : Hid (type_of% hb) := hb
 clear hW hb
 go_enter Tryz.func51, Tryz.ntmps51
 go_wp2_with fail
 refine HWd.out.mono ?_
 rintro r w1 ⟨rfl, rfl⟩
 go_wp2_with fail
 go_quiet (fail)
 go_wp2
 go_ret
 exact ⟨rfl, below_drewN HB.out _⟩
theorem insW_five (op : Int) : insW op = 0 ∨ insW op = 1 ∨ insW op = 2 ∨ insW op = 4 ∨ insW op = 8 := by
 unfold insW
 split
 ·simp
 ·split
  ·simp
  ·split
   ·simp
   ·split <;> simp
theorem vskew (op a b : Int) (so : Option Addr) (n cap : Nat) (w : World) (hT : TabIn w) (hg : 1 < w.heap.size) :
  Calls Tryz.prog 51 #[.agg #[.int .u8 op, .int .i64 a, .int .i64 b, .slice so n cap]] w fun r w' => r = .returned (.bool (skewK op a)) ∧ Below w.heap.size w w' := by
 unfold skewK lgW
 rcases insW_five op with h | h | h | h | h
 ·rw [h]; exact vskew_0 op a b so n cap w h
 ·rw [h]; exact vskew_1 op a b so n cap w hT hg h
 ·rw [h]; exact vskew_2 op a b so n cap w hT hg h
 ·rw [h]; exact vskew_4 op a b so n cap w hT hg h
 ·rw [h]; exact vskew_8 op a b so n cap w hT hg h
end Go.Proofs.YtlfihndbnaaodaaGreatDoor
