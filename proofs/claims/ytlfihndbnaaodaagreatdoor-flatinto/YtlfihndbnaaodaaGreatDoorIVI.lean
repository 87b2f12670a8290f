/-
 The program's own effect, part one.
 The program's own effect, part two.
 The program's own effect, part three.
-/
import Derived.Test.YtlfihndbnaaodaaGreatDoorIVG
set_option maxHeartbeats 4000000
set_option maxRecDepth 1000000
namespace Go.Proofs.YtlfihndbnaaodaaGreatDoor
open Go.RowKit
set_option linter.unusedVariables false
structure EffN (P : Nat) (so oo : Option Addr) (w : World) (d : NumD) (xs : List Int) : Prop where
 xs : d.xs = xs
 ok : d.ok .u8 w
 off : offRow P so oo d
 few : d.n ≤ 20
section
variable {w w' : World} {N P : Nat} {M : Nat → Value} {so : Option Addr} {sc : Nat} {oo : Option Addr} {oc : Nat} {st : List Int} {ops : List BlkD} {bad : Bool}
theorem EffN.nil (P : Nat) (so oo : Option Addr) (w : World) : EffN P so oo w nilN [] := ⟨rfl, nilN_ok w, Or.inl rfl, Nat.zero_le _⟩
theorem EffN.below {d : NumD} {xs : List Int} (h : EffN P so oo w d xs) (b : Below w.heap.size w w') : EffN P so oo w' d xs := ⟨h.xs, h.ok.below b, h.off, h.few⟩
theorem EffN.new (h : TK w N P M so sc oo oc st ops bad) {v : World} (b : Below w.heap.size w v) {d : NumD} {xs : List Int} (hd : newN v w' d xs) (hn : d.n ≤ 20) : EffN P so oo w' d xs := ⟨hd.1, hd.2.1, newN.off (h.below b) hd, hn⟩
theorem EffN.along (h : TK w N P M so sc oo oc st ops bad) (hks : ∀ b ∈ ops, b.ks.n ≤ 10) (i : Nat) (hi : i < ops.length) : EffN P so oo w (ops[i]).along (ops[i]).along.xs := by
 have hk := h.kin _ (List.getElem_mem hi)
 have hn := hks _ (List.getElem_mem hi)
 refine ⟨rfl, along_ok hk.1, ?_, ?_⟩
 ·unfold BlkD.along
  split
  ·exact Or.inl rfl
  ·exact hk.2
 ·unfold BlkD.along
  split
  ·exact Nat.zero_le _
  ·omega
end
theorem isK_num {w : World} {B : Nat} {v : Value} {ks : List Int} (h : IsK w B v ks) (hw : ∀ x ∈ ks, (Lit.int .u8 x).wf = true) (hk : ks.length ≤ 20) : ∃ d : NumD, v = .slice d.o d.n d.cap ∧ d.xs = ks ∧ d.n = ks.length ∧ d.ok .u8 w ∧ (d.n = 0 ∨ ∃ a : Addr, d.o = some a ∧ B ≤ a.block) := by
 rcases h with ⟨rfl, rfl⟩ | ⟨h0, g, rfl, hB, hg, hc⟩
 ·exact ⟨nilN, rfl, rfl, rfl, nilN_ok w, Or.inl rfl⟩
 ·refine ⟨⟨some ⟨g, 0, none⟩, ks.length, ks.length, ks⟩, rfl, rfl, rfl, ⟨Nat.le_refl _, by unfold maxLen; show ks.length ≤ _; omega, rfl, fun e => (by cases e), hw, Or.inr ⟨_, rfl, hg, fun i hi => ?_⟩⟩, Or.inr ⟨_, rfl, hB⟩⟩
  have hadd : (⟨g, 0, none⟩ : Addr).add i = ⟨g, i, none⟩ := by unfold Addr.add; split <;> simp_all
  rw [hadd]
  exact hc i hi
theorem ite_two {c : Prop} [Decidable c] {x y : Int} (hx : x = 126 ∨ x = 127) (hy : y = 126 ∨ y = 127) : (if c then x else y) = 126 ∨ (if c then x else y) = 127 := by split <;> assumption
theorem kMem_two (op : Int) : kMem op = 126 ∨ kMem op = 127 := by unfold kMem; repeat' (first | exact Or.inl rfl | exact Or.inr rfl | apply ite_two)
theorem kTake_two (op : Int) : kTake op = 126 ∨ kTake op = 127 := by unfold kTake; repeat' (first | exact Or.inl rfl | exact Or.inr rfl | apply ite_two)
theorem kGive_two (op : Int) : kGive op = 126 ∨ kGive op = 127 := by unfold kGive; repeat' (first | exact Or.inl rfl | exact Or.inr rfl | apply ite_two)
theorem wf_two {x : Int} (h : x = 126 ∨ x = 127) : (Lit.int .u8 x).wf = true := by rcases h with rfl | rfl <;> exact wf_u8 (by omega) (by omega)
theorem pIn_few (op : Int) : (∀ x ∈ pIn op, (Lit.int .u8 x).wf = true) ∧ (pIn op).length ≤ 20 := by
 have a := wf_two (kMem_two op)
 have b := wf_two (kTake_two op)
 have c := wf_two (Or.inr rfl : (127 : Int) = 126 ∨ (127 : Int) = 127)
 unfold pIn
 repeat' split
 all_goals simp [a, b, c]
theorem pOut_few (op : Int) : (∀ x ∈ pOut op, (Lit.int .u8 x).wf = true) ∧ (pOut op).length ≤ 20 := by
 have a := wf_two (kMem_two op)
 have b := wf_two (kGive_two op)
 have c := wf_two (Or.inr rfl : (127 : Int) = 126 ∨ (127 : Int) = 127)
 have e := wf_two (Or.inl rfl : (126 : Int) = 126 ∨ (126 : Int) = 127)
 unfold pOut
 repeat' split
 all_goals simp [a, b, c, e]
theorem eff_4 (N P : Nat) (m : ModD) (L : NumD) (so : Option Addr) (sc : Nat) (oo : Option Addr) (oc : Nat) (st : List Int) (ops : List BlkD) (bad : Bool) (a b : Int) (xo : Option Addr) (n cap : Nat) (xs : List Int) (w : World) (h : TK w N P (trkM m L) so sc oo oc st ops bad) :
  Calls Tryz.prog 93 #[.pointer (some ⟨P, 0, none⟩), .agg #[.int .u8 4, .int .i64 a, .int .i64 b, .slice xo n cap]] w fun r w' => ∃ d1 d2 : NumD, r = .returned (.tuple #[.slice d1.o d1.n d1.cap, .slice d2.o d2.n d2.cap]) ∧ EffN P so oo w' d1 ([127]) ∧ EffN P so oo w' d2 ([]) ∧ Below w.heap.size w w' := by
 have hb1 : Below w.heap.size w (w.alloc (.cells #[.int .u8 4, .int .i64 a, .int .i64 b, .slice xo n cap] 53)) := (Below.refl _ _).alloc (Nat.le_refl _) _
 have HB1 : Hid (type_of% hb1) := hb1
 have HT : Hid (type_of% h) := h
 have HN : Hid (newN (w.alloc (.cells #[.int .u8 4, .int .i64 a, .int .i64 b, .slice xo n cap] 53)) ((w.alloc (.cells #[.int .u8 4, .int .i64 a, .int .i64 b, .slice xo n cap] 53)).alloc (.cells #[.int .u8 127] 69)) ⟨some ⟨(w.alloc (.cells #[.int .u8 4, .int .i64 a, .int .i64 b, .slice xo n cap] 53)).heap.size, 0, none⟩, 1, 1, [127]⟩ [127]) := newN_one _ 127 (by omega) (by omega)
 have HB2 : Hid (Below w.heap.size w ((w.alloc (.cells #[.int .u8 4, .int .i64 a, .int .i64 b, .slice xo n cap] 53)).alloc (.cells #[.int .u8 127] 69))) := hb1.alloc hb1.size _
 have hsz : (w.alloc (.cells #[.int .u8 4, .int .i64 a, .int .i64 b, .slice xo n cap] 53)).heap.size = w.heap.size + 1 := by simp
 rw [hsz] at HN
 clear h hb1 hsz
 go_enter Tryz.func93, Tryz.ntmps93
 go_wp2
 refine bodyPost_ret (results_tmp2 rfl _ _ _) rfl ?_
 exact ⟨_, nilN, rfl, EffN.new HT.out HB1.out HN.out (by simp), EffN.nil _ _ _ _, HB2.out⟩
theorem eff_12 (N P : Nat) (m : ModD) (L : NumD) (so : Option Addr) (sc : Nat) (oo : Option Addr) (oc : Nat) (st : List Int) (ops : List BlkD) (bad : Bool) (a b : Int) (xo : Option Addr) (n cap : Nat) (xs : List Int) (w : World) (h : TK w N P (trkM m L) so sc oo oc st ops bad) (hks : ∀ b ∈ ops, b.ks.n ≤ 10) (ha0 : 0 ≤ a) (ha1 : a < (ops.length : Int)) :
  Calls Tryz.prog 93 #[.pointer (some ⟨P, 0, none⟩), .agg #[.int .u8 12, .int .i64 a, .int .i64 b, .slice xo n cap]] w fun r w' => ∃ d1 d2 : NumD, r = .returned (.tuple #[.slice d1.o d1.n d1.cap, .slice d2.o d2.n d2.cap]) ∧ EffN P so oo w' d1 (alAt ops a) ∧ EffN P so oo w' d2 ([]) ∧ Below w.heap.size w w' := by
 have hb1 : Below w.heap.size w (w.alloc (.cells #[.int .u8 12, .int .i64 a, .int .i64 b, .slice xo n cap] 53)) := (Below.refl _ _).alloc (Nat.le_refl _) _
 have HB1 : Hid (type_of% hb1) := hb1
 have HT : Hid (type_of% h) := h
 have hi : ops.length - 1 - a.toNat < ops.length := by omega
 have hia : a = (ops.length : Int) - 1 - ((ops.length - 1 - a.toNat : Nat) : Int) := by omega
 have HO : Hid (type_of% (vout N P (trkM m L) so sc oo oc st ops bad a (w.alloc (.cells #[.int .u8 12, .int .i64 a, .int .i64 b, .slice xo n cap] 53)) (h.below hb1) _ hi hia)) := vout N P (trkM m L) so sc oo oc st ops bad a (w.alloc (.cells #[.int .u8 12, .int .i64 a, .int .i64 b, .slice xo n cap] 53)) (h.below hb1) _ hi hia
 have HE : Hid (EffN P so oo w (ops[ops.length - 1 - a.toNat]).along (alAt ops a)) := by
  have := EffN.along h hks _ hi
  rw [← alAt_eq ops a _ hi hia] at this
  exact this
 have hkn := hks _ (List.getElem_mem hi)
 generalize ops[ops.length - 1 - a.toNat] = bl at *
 have HAL : Hid (∀ w', Calls Tryz.prog 86 #[.agg #[.int .u8 bl.op, .slice bl.ks.o bl.ks.n bl.ks.cap, .int .i64 (bl.base : Int), .bool bl.dead]] w' fun r w'' => r = .returned (.slice bl.along.o bl.along.n bl.along.cap) ∧ Below w'.heap.size w' w'') := fun w' => valong bl w'
 have hal : bl.along.n ≤ 10 := by
  unfold BlkD.along
  split
  ·exact Nat.zero_le _
  ·exact hkn
 generalize alAt ops a = al at *
 clear h hb1 hi hia hks hkn ha0 ha1
 go_enter Tryz.func93, Tryz.ntmps93
 go_wp2_with fail
 refine HO.out.mono ?_
 rintro r w1 ⟨rfl, hb2⟩
 have HB2 : Hid (Below w.heap.size w w1) := HB1.out.trans (hb2.mono HB1.out.size)
 clear hb2 HO
 go_wp2_with fail
 refine (HAL.out _).mono ?_
 rintro r w2 ⟨rfl, hb3⟩
 have HB3 : Hid (Below w.heap.size w w2) := HB2.out.trans (hb3.mono HB2.out.size)
 have HE3 : Hid (EffN P so oo w2 bl.along al) := HE.out.below HB3.out
 clear hb3 HAL HE HB2
 go_wp2
 refine bodyPost_ret (results_tmp2 rfl _ _ _) rfl ?_
 exact ⟨_, nilN, rfl, HE3.out, EffN.nil _ _ _ _, HB3.out⟩
theorem eff_13 (N P : Nat) (m : ModD) (L : NumD) (so : Option Addr) (sc : Nat) (oo : Option Addr) (oc : Nat) (st : List Int) (ops : List BlkD) (bad : Bool) (a b : Int) (xo : Option Addr) (n cap : Nat) (xs : List Int) (w : World) (h : TK w N P (trkM m L) so sc oo oc st ops bad) (hks : ∀ b ∈ ops, b.ks.n ≤ 10) (ha0 : 0 ≤ a) (ha1 : a < (ops.length : Int)) :
  Calls Tryz.prog 93 #[.pointer (some ⟨P, 0, none⟩), .agg #[.int .u8 13, .int .i64 a, .int .i64 b, .slice xo n cap]] w fun r w' => ∃ d1 d2 : NumD, r = .returned (.tuple #[.slice d1.o d1.n d1.cap, .slice d2.o d2.n d2.cap]) ∧ EffN P so oo w' d1 (alAt ops a ++ [127]) ∧ EffN P so oo w' d2 (alAt ops a) ∧ Below w.heap.size w w' := by
 have hb1 : Below w.heap.size w (w.alloc (.cells #[.int .u8 13, .int .i64 a, .int .i64 b, .slice xo n cap] 53)) := (Below.refl _ _).alloc (Nat.le_refl _) _
 have HB1 : Hid (type_of% hb1) := hb1
 have HT : Hid (type_of% h) := h
 have hi : ops.length - 1 - a.toNat < ops.length := by omega
 have hia : a = (ops.length : Int) - 1 - ((ops.length - 1 - a.toNat : Nat) : Int) := by omega
 have HO : Hid (type_of% (vout N P (trkM m L) so sc oo oc st ops bad a (w.alloc (.cells #[.int .u8 13, .int .i64 a, .int .i64 b, .slice xo n cap] 53)) (h.below hb1) _ hi hia)) := vout N P (trkM m L) so sc oo oc st ops bad a (w.alloc (.cells #[.int .u8 13, .int .i64 a, .int .i64 b, .slice xo n cap] 53)) (h.below hb1) _ hi hia
 have HE : Hid (EffN P so oo w (ops[ops.length - 1 - a.toNat]).along (alAt ops a)) := by
  have := EffN.along h hks _ hi
  rw [← alAt_eq ops a _ hi hia] at this
  exact this
 have hkn := hks _ (List.getElem_mem hi)
 generalize ops[ops.length - 1 - a.toNat] = bl at *
 have HAL : Hid (∀ w', Calls Tryz.prog 86 #[.agg #[.int .u8 bl.op, .slice bl.ks.o bl.ks.n bl.ks.cap, .int .i64 (bl.base : Int), .bool bl.dead]] w' fun r w'' => r = .returned (.slice bl.along.o bl.along.n bl.along.cap) ∧ Below w'.heap.size w' w'') := fun w' => valong bl w'
 have hal : bl.along.n ≤ 10 := by
  unfold BlkD.along
  split
  ·exact Nat.zero_le _
  ·exact hkn
 generalize alAt ops a = al at *
 clear h hb1 hi hia hks hkn ha0 ha1
 go_enter Tryz.func93, Tryz.ntmps93
 go_wp2_with fail
 refine HO.out.mono ?_
 rintro r w1 ⟨rfl, hb2⟩
 have HB2 : Hid (Below w.heap.size w w1) := HB1.out.trans (hb2.mono HB1.out.size)
 clear hb2 HO
 go_wp2_with fail
 refine (HAL.out _).mono ?_
 rintro r w2 ⟨rfl, hb3⟩
 have HB3 : Hid (Below w.heap.size w w2) := HB2.out.trans (hb3.mono HB2.out.size)
 have HE3 : Hid (EffN P so oo w2 bl.along al) := HE.out.below HB3.out
 clear hb3 HAL HE HB2
 have HAN : Hid (type_of% (vandNumber bl.along w2 HE3.out.ok (by omega))) := vandNumber bl.along w2 HE3.out.ok (by omega)
 go_wp2_with fail
 refine HAN.out.mono ?_
 rintro r w3 ⟨d', rfl, hn', hd', hb4⟩
 rw [HE3.out.xs] at hn'
 have HB4 : Hid (Below w.heap.size w w3) := HB3.out.trans (hb4.mono HB3.out.size)
 have HN' : Hid (EffN P so oo w3 d' (al ++ [127])) := EffN.new HT.out HB3.out hn' (by omega)
 have HE4 : Hid (EffN P so oo w3 bl.along al) := HE3.out.below hb4
 clear hn' hd' hb4 HAN
 go_wp2
 refine bodyPost_ret (results_tmp2 rfl _ _ _) rfl ?_
 exact ⟨d', _, rfl, HN'.out, HE4.out, HB4.out⟩
theorem eff_14 (N P : Nat) (m : ModD) (L : NumD) (so : Option Addr) (sc : Nat) (oo : Option Addr) (oc : Nat) (st : List Int) (ops : List BlkD) (bad : Bool) (a b : Int) (xo : Option Addr) (n cap : Nat) (xs : List Int) (w : World) (h : TK w N P (trkM m L) so sc oo oc st ops bad) (hks : ∀ b ∈ ops, b.ks.n ≤ 10) (ha0 : 0 ≤ a) (ha1 : a < (ops.length : Int)) :
  Calls Tryz.prog 93 #[.pointer (some ⟨P, 0, none⟩), .agg #[.int .u8 14, .int .i64 a, .int .i64 b, .slice xo n cap]] w fun r w' => ∃ d1 d2 : NumD, r = .returned (.tuple #[.slice d1.o d1.n d1.cap, .slice d2.o d2.n d2.cap]) ∧ EffN P so oo w' d1 (alAt ops a ++ [127]) ∧ EffN P so oo w' d2 ([]) ∧ Below w.heap.size w w' := by
 have hb1 : Below w.heap.size w (w.alloc (.cells #[.int .u8 14, .int .i64 a, .int .i64 b, .slice xo n cap] 53)) := (Below.refl _ _).alloc (Nat.le_refl _) _
 have HB1 : Hid (type_of% hb1) := hb1
 have HT : Hid (type_of% h) := h
 have hi : ops.length - 1 - a.toNat < ops.length := by omega
 have hia : a = (ops.length : Int) - 1 - ((ops.length - 1 - a.toNat : Nat) : Int) := by omega
 have HO : Hid (type_of% (vout N P (trkM m L) so sc oo oc st ops bad a (w.alloc (.cells #[.int .u8 14, .int .i64 a, .int .i64 b, .slice xo n cap] 53)) (h.below hb1) _ hi hia)) := vout N P (trkM m L) so sc oo oc st ops bad a (w.alloc (.cells #[.int .u8 14, .int .i64 a, .int .i64 b, .slice xo n cap] 53)) (h.below hb1) _ hi hia
 have HE : Hid (EffN P so oo w (ops[ops.length - 1 - a.toNat]).along (alAt ops a)) := by
  have := EffN.along h hks _ hi
  rw [← alAt_eq ops a _ hi hia] at this
  exact this
 have hkn := hks _ (List.getElem_mem hi)
 generalize ops[ops.length - 1 - a.toNat] = bl at *
 have HAL : Hid (∀ w', Calls Tryz.prog 86 #[.agg #[.int .u8 bl.op, .slice bl.ks.o bl.ks.n bl.ks.cap, .int .i64 (bl.base : Int), .bool bl.dead]] w' fun r w'' => r = .returned (.slice bl.along.o bl.along.n bl.along.cap) ∧ Below w'.heap.size w' w'') := fun w' => valong bl w'
 have hal : bl.along.n ≤ 10 := by
  unfold BlkD.along
  split
  ·exact Nat.zero_le _
  ·exact hkn
 generalize alAt ops a = al at *
 clear h hb1 hi hia hks hkn ha0 ha1
 go_enter Tryz.func93, Tryz.ntmps93
 go_wp2_with fail
 refine HO.out.mono ?_
 rintro r w1 ⟨rfl, hb2⟩
 have HB2 : Hid (Below w.heap.size w w1) := HB1.out.trans (hb2.mono HB1.out.size)
 clear hb2 HO
 go_wp2_with fail
 refine (HAL.out _).mono ?_
 rintro r w2 ⟨rfl, hb3⟩
 have HB3 : Hid (Below w.heap.size w w2) := HB2.out.trans (hb3.mono HB2.out.size)
 have HE3 : Hid (EffN P so oo w2 bl.along al) := HE.out.below HB3.out
 clear hb3 HAL HE HB2
 have HAN : Hid (type_of% (vandNumber bl.along w2 HE3.out.ok (by omega))) := vandNumber bl.along w2 HE3.out.ok (by omega)
 go_wp2_with fail
 refine HAN.out.mono ?_
 rintro r w3 ⟨d', rfl, hn', hd', hb4⟩
 rw [HE3.out.xs] at hn'
 have HB4 : Hid (Below w.heap.size w w3) := HB3.out.trans (hb4.mono HB3.out.size)
 have HN' : Hid (EffN P so oo w3 d' (al ++ [127])) := EffN.new HT.out HB3.out hn' (by omega)
 have HE4 : Hid (EffN P so oo w3 bl.along al) := HE3.out.below hb4
 clear hn' hd' hb4 HAN
 go_wp2
 refine bodyPost_ret (results_tmp2 rfl _ _ _) rfl ?_
 exact ⟨d', nilN, rfl, HN'.out, EffN.nil _ _ _ _, HB4.out⟩
theorem eff_15 (N P : Nat) (m : ModD) (L : NumD) (so : Option Addr) (sc : Nat) (oo : Option Addr) (oc : Nat) (st : List Int) (ops : List BlkD) (bad : Bool) (a b : Int) (xo : Option Addr) (n cap : Nat) (xs : List Int) (w : World) (h : TK w N P (trkM m L) so sc oo oc st ops bad) (hks : ∀ b ∈ ops, b.ks.n ≤ 10) (h0 : 0 < ops.length) :
  Calls Tryz.prog 93 #[.pointer (some ⟨P, 0, none⟩), .agg #[.int .u8 15, .int .i64 a, .int .i64 b, .slice xo n cap]] w fun r w' => ∃ d1 d2 : NumD, r = .returned (.tuple #[.slice d1.o d1.n d1.cap, .slice d2.o d2.n d2.cap]) ∧ EffN P so oo w' d1 (((ops[0]?).map fun b => b.along.xs).getD []) ∧ EffN P so oo w' d2 ([]) ∧ Below w.heap.size w w' := by
 have hb1 : Below w.heap.size w (w.alloc (.cells #[.int .u8 15, .int .i64 a, .int .i64 b, .slice xo n cap] 53)) := (Below.refl _ _).alloc (Nat.le_refl _) _
 have HB1 : Hid (type_of% hb1) := hb1
 have HT : Hid (type_of% h) := h
 have HE : Hid (EffN P so oo w (ops[0]).along (((ops[0]?).map fun b => b.along.xs).getD [])) := by
  have := EffN.along h hks 0 h0
  unfold Hid
  rw [List.getElem?_eq_getElem h0]
  exact this
 obtain ⟨g, ho, _, _, hc1, hc2, hcs⟩ := (h.below hb1).blk 0 h0
 have c13 := (h.below hb1).c13
 rw [ho] at c13
 unfold maxLen at hc2
 generalize (((ops[0]?).map fun b => b.along.xs).getD []) = al at *
 generalize ops[0] = bl at *
 have e0 : (w.alloc (.cells #[.int .u8 15, .int .i64 a, .int .i64 b, .slice xo n cap] 53)).cell? ⟨g, 0, none⟩ = some (.int .u8 bl.op) := hcs 0 (by omega)
 have e1 : (w.alloc (.cells #[.int .u8 15, .int .i64 a, .int .i64 b, .slice xo n cap] 53)).cell? ⟨g, 1, none⟩ = some (.slice bl.ks.o bl.ks.n bl.ks.cap) := hcs 1 (by omega)
 have e2 : (w.alloc (.cells #[.int .u8 15, .int .i64 a, .int .i64 b, .slice xo n cap] 53)).cell? ⟨g, 2, none⟩ = some (.int .i64 (bl.base : Int)) := hcs 2 (by omega)
 have e3 : (w.alloc (.cells #[.int .u8 15, .int .i64 a, .int .i64 b, .slice xo n cap] 53)).cell? ⟨g, 3, none⟩ = some (.bool bl.dead) := hcs 3 (by omega)
 have HAL : Hid (∀ w', Calls Tryz.prog 86 #[.agg #[.int .u8 bl.op, .slice bl.ks.o bl.ks.n bl.ks.cap, .int .i64 (bl.base : Int), .bool bl.dead]] w' fun r w'' => r = .returned (.slice bl.along.o bl.along.n bl.along.cap) ∧ Below w'.heap.size w' w'') := fun w' => valong bl w'
 generalize ops.length = no at *
 clear h hb1 hks hcs ho
 go_enter Tryz.func93, Tryz.ntmps93
 go_wp2_with fail
 refine (HAL.out _).mono ?_
 rintro r w2 ⟨rfl, hb3⟩
 have HB3 : Hid (Below w.heap.size w w2) := HB1.out.trans (hb3.mono HB1.out.size)
 have HE3 : Hid (EffN P so oo w2 bl.along al) := HE.out.below HB3.out
 clear hb3 HAL HE e0 e1 e2 e3 c13
 go_wp2
 refine bodyPost_ret (results_tmp2 rfl _ _ _) rfl ?_
 exact ⟨_, nilN, rfl, HE3.out, EffN.nil _ _ _ _, HB3.out⟩
theorem eff_other (op : Int) (N P : Nat) (m : ModD) (L : NumD) (so : Option Addr) (sc : Nat) (oo : Option Addr) (oc : Nat) (st : List Int) (ops : List BlkD) (bad : Bool) (a b : Int) (xo : Option Addr) (n cap : Nat) (xs : List Int) (w : World) (h : TK w N P (trkM m L) so sc oo oc st ops bad) (ho0 : 0 ≤ op) (ho1 : op ≤ 255) (hTab : TabIn w) (hg : 1 < w.heap.size) (hop : op ≠ 4 ∧ op ≠ 12 ∧ op ≠ 13 ∧ op ≠ 14 ∧ op ≠ 15 ∧ op ≠ 16 ∧ op ≠ 17 ∧ op ≠ 32 ∧ op ≠ 33 ∧ op ≠ 34 ∧ op ≠ 35 ∧ op ≠ 36) :
  Calls Tryz.prog 93 #[.pointer (some ⟨P, 0, none⟩), .agg #[.int .u8 op, .int .i64 a, .int .i64 b, .slice xo n cap]] w fun r w' => ∃ d1 d2 : NumD, r = .returned (.tuple #[.slice d1.o d1.n d1.cap, .slice d2.o d2.n d2.cap]) ∧ EffN P so oo w' d1 (pIn op) ∧ EffN P so oo w' d2 (pOut op) ∧ Below w.heap.size w w' := by
 have hb1 : Below w.heap.size w (w.alloc (.cells #[.int .u8 op, .int .i64 a, .int .i64 b, .slice xo n cap] 53)) := (Below.refl _ _).alloc (Nat.le_refl _) _
 have HB1 : Hid (type_of% hb1) := hb1
 have HT : Hid (type_of% h) := h
 have HP : Hid (type_of% (plain_any op ho0 ho1 (w.alloc (.cells #[.int .u8 op, .int .i64 a, .int .i64 b, .slice xo n cap] 53)) (hTab.of_cells fun j => hb1.cell (p := ⟨1, j, none⟩) hg))) := plain_any op ho0 ho1 (w.alloc (.cells #[.int .u8 op, .int .i64 a, .int .i64 b, .slice xo n cap] 53)) (hTab.of_cells fun j => hb1.cell (p := ⟨1, j, none⟩) hg)
 have HF1 : Hid (type_of% (pIn_few op)) := pIn_few op
 have HF2 : Hid (type_of% (pOut_few op)) := pOut_few op
 generalize pIn op = pi at *
 generalize pOut op = po at *
 generalize pIs op = pb at *
 obtain ⟨h4, h12, h13, h14, h15, h16, h17, h32, h33, h34, h35, h36⟩ := hop
 have b4 : (op == 4) = false := by simp [h4]
 have b12 : (op == 12) = false := by simp [h12]
 have b13 : (op == 13) = false := by simp [h13]
 have b14 : (op == 14) = false := by simp [h14]
 have b15 : (op == 15) = false := by simp [h15]
 have b16 : (op == 16) = false := by simp [h16]
 have b17 : (op == 17) = false := by simp [h17]
 have b32 : (op == 32) = false := by simp [h32]
 have b33 : (op == 33) = false := by simp [h33]
 have b34 : (op == 34) = false := by simp [h34]
 have b35 : (op == 35) = false := by simp [h35]
 have b36 : (op == 36) = false := by simp [h36]
 clear h hb1 h4 h12 h13 h14 h15 h16 h17 h32 h33 h34 h35 h36
 go_enter Tryz.func93, Tryz.ntmps93
 go_wp2_with fail
 refine HP.out.mono ?_
 rintro r w2 ⟨v1, v2, rfl, hk1, hk2, hb2⟩
 obtain ⟨d1, rfl, hx1, hn1, hd1, hf1⟩ := isK_num hk1 HF1.out.1 HF1.out.2
 obtain ⟨d2, rfl, hx2, hn2, hd2, hf2⟩ := isK_num hk2 HF2.out.1 HF2.out.2
 have HB2 : Hid (Below w.heap.size w w2) := HB1.out.trans (hb2.mono HB1.out.size)
 have HE1 : Hid (EffN P so oo w2 d1 pi) := EffN.new HT.out HB1.out ⟨hx1, hd1, hf1⟩ (by rw [hn1]; exact HF1.out.2)
 have HE2 : Hid (EffN P so oo w2 d2 po) := EffN.new HT.out HB1.out ⟨hx2, hd2, hf2⟩ (by rw [hn2]; exact HF2.out.2)
 clear hk1 hk2 hb2 hx1 hn1 hd1 hf1 hx2 hn2 hd2 hf2 HP HF1 HF2
 go_wp2
 refine bodyPost_ret (results_tmp2 rfl _ _ _) rfl ?_
 exact ⟨d1, d2, rfl, HE1.out, HE2.out, HB2.out⟩
end Go.Proofs.YtlfihndbnaaodaaGreatDoor
namespace Go.Proofs.YtlfihndbnaaodaaGreatDoor
open Go.RowKit
set_option linter.unusedVariables false
theorem EffN.low {w0 w : World} {N P : Nat} {M : Nat → Value} {so : Option Addr} {sc : Nat} {oo : Option Addr} {oc : Nat} {st : List Int} {ops : List BlkD} {bad : Bool} (h : TK w N P M so sc oo oc st ops bad) (hw0 : w0.heap.size ≤ N) (hb0 : Below w0.heap.size w0 w) {d : NumD} (hd : d.ok .u8 w0) (hn : d.n ≤ 20) : EffN P so oo w d d.xs := by
 refine ⟨rfl, hd.below hb0, ?_, hn⟩
 rcases hd.at' with h0 | ⟨a, ha, hb, _⟩
 ·exact Or.inl h0
 ·have := h.np
  refine Or.inr ⟨a, ha, by omega, fun q hq => ?_, fun q hq => ?_⟩
  ·rcases h.stk.2 with ⟨h1, _⟩ | ⟨g', c, cur, h1, h2, _⟩
   ·simp only [Value.slice.injEq] at h1; rw [h1.1] at hq; cases hq
   ·simp only [Value.slice.injEq] at h1; rw [h1.1] at hq; cases hq; show a.block ≠ g'; omega
  ·rcases h.opn.2 with ⟨h1, _⟩ | ⟨g', c, cur, h1, h2, _⟩
   ·simp only [Value.slice.injEq] at h1; rw [h1.1] at hq; cases hq
   ·simp only [Value.slice.injEq] at h1; rw [h1.1] at hq; cases hq; show a.block ≠ g'; omega
theorem eff_17 (N P : Nat) (m : ModD) (L : NumD) (so : Option Addr) (sc : Nat) (oo : Option Addr) (oc : Nat) (st : List Int) (ops : List BlkD) (bad : Bool) (a b : Int) (xo : Option Addr) (n cap : Nat) (xs : List Int) (w : World) (h : TK w N P (trkM m L) so sc oo oc st ops bad) (w0 : World) (hw0 : w0.heap.size ≤ N) (hb0 : Below w0.heap.size w0 w) (hm : m.ok w0) (ha0 : 0 ≤ a) (ha1 : a < (m.types.length : Int)) (hty : ∀ d ∈ m.types, d.i.n ≤ 16 ∧ d.r.n ≤ 16) :
  Calls Tryz.prog 93 #[.pointer (some ⟨P, 0, none⟩), .agg #[.int .u8 17, .int .i64 a, .int .i64 b, .slice xo n cap]] w fun r w' => ∃ d1 d2 : NumD, r = .returned (.tuple #[.slice d1.o d1.n d1.cap, .slice d2.o d2.n d2.cap]) ∧ EffN P so oo w' d1 (((m.types[a.toNat]?).map fun s => s.i.xs ++ [127]).getD []) ∧ EffN P so oo w' d2 (((m.types[a.toNat]?).map fun s => s.r.xs).getD []) ∧ Below w.heap.size w w' := by
 have hb1 : Below w.heap.size w (w.alloc (.cells #[.int .u8 17, .int .i64 a, .int .i64 b, .slice xo n cap] 53)) := (Below.refl _ _).alloc (Nat.le_refl _) _
 have HB1 : Hid (type_of% hb1) := hb1
 have HT : Hid (type_of% h) := h
 have hi : a.toNat < m.types.length := by omega
 have hcm := hm.types.most
 have hcl := hm.types.le
 unfold maxLen at hcm
 obtain ⟨bb, ff, ho, hbN, hc⟩ := hm.types.cellAt (fun e => by rw [e] at hi; exact absurd hi (by simp))
 have hbX : Below w0.heap.size w0 (w.alloc (.cells #[.int .u8 17, .int .i64 a, .int .i64 b, .slice xo n cap] 53)) := hb0.trans (hb1.mono hb0.size)
 have hbA : Below w0.heap.size w0 ((w.alloc (.cells #[.int .u8 17, .int .i64 a, .int .i64 b, .slice xo n cap] 53)).alloc (.cells #[.slice none 0 0, .slice none 0 0] 83)) := hbX.alloc hbX.size _
 have hbW : Below w.heap.size w ((w.alloc (.cells #[.int .u8 17, .int .i64 a, .int .i64 b, .slice xo n cap] 53)).alloc (.cells #[.slice none 0 0, .slice none 0 0] 83)) := hb1.alloc hb1.size _
 have hcc := hc _ hbA _ hi
 have hcx := hc _ hbX _ hi
 have hsm := hty _ (List.getElem_mem hi)
 have hso := hm.types.all _ (List.getElem_mem hi)
 rw [List.getElem?_eq_getElem hi]
 rw [getElem!_pos m.types _ hi] at hcc hcx
 generalize m.types[a.toNat] = d at *
 have HI : Hid (EffN P so oo w d.i d.i.xs) := EffN.low h hw0 hb0 hso.1 (by omega)
 have HR : Hid (EffN P so oo w d.r d.r.xs) := EffN.low h hw0 hb0 hso.2 (by omega)
 obtain ⟨⟨io, iN, ic, ix⟩, ⟨ro, rN, rc, rx⟩⟩ := d
 have e0 : ((w.alloc (.cells #[.int .u8 17, .int .i64 a, .int .i64 b, .slice xo n cap] 53)).alloc (.cells #[.slice none 0 0, .slice none 0 0] 83)).cell? ⟨bb, ff + a.toNat * 2, none⟩ = some (.slice io iN ic) := hcc 0 (by omega)
 have e1 : ((w.alloc (.cells #[.int .u8 17, .int .i64 a, .int .i64 b, .slice xo n cap] 53)).alloc (.cells #[.slice none 0 0, .slice none 0 0] 83)).cell? ⟨bb, ff + a.toNat * 2 + 1, none⟩ = some (.slice ro rN rc) := hcc 1 (by omega)
 have e2 : (w.alloc (.cells #[.int .u8 17, .int .i64 a, .int .i64 b, .slice xo n cap] 53)).cell? ⟨bb, ff + a.toNat * 2, none⟩ = some (.slice io iN ic) := hcx 0 (by omega)
 have e3 : (w.alloc (.cells #[.int .u8 17, .int .i64 a, .int .i64 b, .slice xo n cap] 53)).cell? ⟨bb, ff + a.toNat * 2 + 1, none⟩ = some (.slice ro rN rc) := hcx 1 (by omega)
 have k0 : ((w.alloc (.cells #[.int .u8 17, .int .i64 a, .int .i64 b, .slice xo n cap] 53)).alloc (.cells #[.slice none 0 0, .slice none 0 0] 83)).cell? ⟨P, 0, none⟩ = some (.slice m.oT m.types.length m.cT) := (h.below hbW).k 0 (by omega)
 have k1 : (w.alloc (.cells #[.int .u8 17, .int .i64 a, .int .i64 b, .slice xo n cap] 53)).cell? ⟨P, 0, none⟩ = some (.slice m.oT m.types.length m.cT) := (h.below hb1).k 0 (by omega)
 rw [ho] at k0 k1
 dsimp only at hsm
 obtain ⟨hsm1, hsm2⟩ := hsm
 clear hc h hb1 hcc hcx hbX hbA hbW hso ho hb0 hm hw0 hty
 go_enter Tryz.func93, Tryz.ntmps93
 go_wp2
 go_region
 have HBV : Hid (Below w.heap.size w ((w.alloc (.cells #[.int .u8 17, .int .i64 a, .int .i64 b, .slice xo n cap] 53)).alloc (.cells #[.slice io iN ic, .slice ro rN rc] 83)).drew) := (HB1.out.alloc HB1.out.size _).drew
 have hq := new_block (w.alloc (.cells #[.int .u8 17, .int .i64 a, .int .i64 b, .slice xo n cap] 53)) (.cells #[.slice io iN ic, .slice ro rN rc] 83)
 rw [show (w.alloc (.cells #[.int .u8 17, .int .i64 a, .int .i64 b, .slice xo n cap] 53)).heap.size = w.heap.size + 1 by simp] at hq
 have hq2 : ((w.alloc (.cells #[.int .u8 17, .int .i64 a, .int .i64 b, .slice xo n cap] 53)).alloc (.cells #[.slice io iN ic, .slice ro rN rc] 83)).drew.heap[w.heap.size + 1]? = some (.cells #[.slice io iN ic, .slice ro rN rc] 83 (0, 0)) := hq
 have hsv : ((w.alloc (.cells #[.int .u8 17, .int .i64 a, .int .i64 b, .slice xo n cap] 53)).alloc (.cells #[.slice io iN ic, .slice ro rN rc] 83)).drew.heap.size = w.heap.size + 2 := by simp
 generalize ((w.alloc (.cells #[.int .u8 17, .int .i64 a, .int .i64 b, .slice xo n cap] 53)).alloc (.cells #[.slice io iN ic, .slice ro rN rc] 83)).drew = v at *
 have HS : Hid (∀ w', Below v.heap.size v w' → w'.cell? ⟨w.heap.size + 1, 0, none⟩ = some (.slice io iN ic) ∧ w'.cell? ⟨w.heap.size + 1, 1, none⟩ = some (.slice ro rN rc)) := fun w' b => by
  have hk : w'.heap[w.heap.size + 1]? = some (.cells #[.slice io iN ic, .slice ro rN rc] 83 (0, 0)) := (b.block _ (by rw [hsv]; omega)).trans hq2
  exact ⟨cell_at hk 0 rfl, cell_at hk 1 rfl⟩
 have HAN : Hid (∀ w', Below v.heap.size v w' → Calls Tryz.prog 134 #[.slice io iN ic] w' fun r w'' => ∃ d' : NumD, r = .returned (.slice d'.o d'.n d'.cap) ∧ newN w' w'' d' (ix ++ [127]) ∧ d'.n = iN + 1 ∧ Below w'.heap.size w' w'') := fun w' b => vandNumber ⟨io, iN, ic, ix⟩ w' (HI.out.ok.below (HBV.out.trans (b.mono HBV.out.size))) (by show iN ≤ 999; omega)
 have HVS : Hid (w.heap.size ≤ v.heap.size) := HBV.out.size
 have z0 := (HS.out v (Below.refl _ _)).1
 have z1 := (HS.out v (Below.refl _ _)).2
 clear hq hq2 hsv e0 e1 e2 e3 k0 k1
 go_wp2
 go_region_held3 (fun w' => w'.cell? ⟨w.heap.size + 1, 0, none⟩ = some (.slice io iN ic) ∧ w'.cell? ⟨w.heap.size + 1, 1, none⟩ = some (.slice ro rN rc))
  (first | exact HS.out _ bch | go_keep)
  ((go_at_call 134; (fail_if_success (have := HT1)); refine (HAN.out _ ?_).mono ?_; exact bch; rintro r w1 ⟨d', rfl, hn', hdn', b1⟩; have HT1 : Hid True := trivial; have HN1 : Hid (newN _ _ _ _) := hn'; have HDN : Hid (d'.n = iN + 1) := hdn'; have HA0 : Hid (Below v.heap.size v _) := (bch : Below v.heap.size v _); have HA1 : Hid (Below v.heap.size v w1) := (by (refine Below.trans ?_ (b1.mono ?_) <;> first | exact bch | exact bcl)); have hs1 : v.heap.size ≤ w1.heap.size := HA1.out.size; clear b1 hn' hdn'))
 all_goals
  go_wp2
  refine bodyPost_ret (results_tmp2 rfl _ _ _) rfl ?_
  have HBF : Hid (Below w.heap.size w w1) := HBV.out.trans (HA1.out.mono HVS.out)
  exact ⟨d', ⟨ro, rN, rc, rx⟩, rfl, EffN.new HT.out (HBV.out.trans ((bch : Below v.heap.size v _).mono HVS.out)) HN1.out (by rw [HDN.out]; omega), HR.out.below HBF.out, HBF.out⟩
end Go.Proofs.YtlfihndbnaaodaaGreatDoor
namespace Go.Proofs.YtlfihndbnaaodaaGreatDoor
open Go.RowKit
set_option linter.unusedVariables false
theorem eff_loc (op : Int) (hop : op = 32 ∨ op = 33 ∨ op = 34) (N P : Nat) (m : ModD) (L : NumD) (so : Option Addr) (sc : Nat) (oo : Option Addr) (oc : Nat) (st : List Int) (ops : List BlkD) (bad : Bool) (a b : Int) (xo : Option Addr) (n cap : Nat) (xs : List Int) (w : World) (h : TK w N P (trkM m L) so sc oo oc st ops bad) (hL : L.ok .u8 w) (hLk : ∀ x ∈ L.xs, 0 ≤ x ∧ x ≤ 255) (ha0 : 0 ≤ a) (ha1 : a < (L.n : Int)) :
  Calls Tryz.prog 93 #[.pointer (some ⟨P, 0, none⟩), .agg #[.int .u8 op, .int .i64 a, .int .i64 b, .slice xo n cap]] w fun r w' => ∃ d1 d2 : NumD, r = .returned (.tuple #[.slice d1.o d1.n d1.cap, .slice d2.o d2.n d2.cap]) ∧ EffN P so oo w' d1 (((L.xs[a.toNat]?).map fun k => onT k op).getD []) ∧ EffN P so oo w' d2 (((L.xs[a.toNat]?).map fun k => onG k op).getD []) ∧ Below w.heap.size w w' := by
 have hb1 : Below w.heap.size w (w.alloc (.cells #[.int .u8 op, .int .i64 a, .int .i64 b, .slice xo n cap] 53)) := (Below.refl _ _).alloc (Nat.le_refl _) _
 have HT : Hid (type_of% h) := h
 have hi : a.toNat < L.xs.length := by rw [hL.len]; omega
 have hlm := hL.most
 have hll := hL.le
 unfold maxLen at hlm
 rw [List.getElem?_eq_getElem hi]
 obtain ⟨bb, ff, ho, hbN, hc⟩ := (hL.at1 (Nat.le_refl _)).resolve_left (fun e => by rw [e] at hi; exact absurd hi (by simp))
 have e9 := hc _ hi 0 (by omega)
 rw [Nat.mul_one, Nat.add_zero] at e9
 have e9 : w.cell? ⟨bb, ff + a.toNat, none⟩ = some (.int .u8 (L.xs[a.toNat])) := e9
 have hkd := hLk _ (List.getElem_mem hi)
 dsimp only [Option.map_some, Option.getD_some]
 generalize L.xs[a.toNat] = kd at *
 have HEO : Hid (∀ w', Below (w.alloc (.cells #[.int .u8 op, .int .i64 a, .int .i64 b, .slice xo n cap] 53)).heap.size (w.alloc (.cells #[.int .u8 op, .int .i64 a, .int .i64 b, .slice xo n cap] 53)) w' → Calls Tryz.prog 135 #[.int .u8 kd, .int .u8 op] w' fun r w'' => ∃ d1 d2 : NumD, r = .returned (.tuple #[.slice d1.o d1.n d1.cap, .slice d2.o d2.n d2.cap]) ∧ newN w' w'' d1 (onT kd op) ∧ newN w' w'' d2 (onG kd op) ∧ d1.n ≤ 1 ∧ d2.n ≤ 1 ∧ Below w'.heap.size w' w'') := fun w' _ => veffectOn kd op hkd.1 hkd.2 w'
 have hq := new_block w (.cells #[.int .u8 op, .int .i64 a, .int .i64 b, .slice xo n cap] 53)
 have HVS : Hid (w.heap.size ≤ (w.alloc (.cells #[.int .u8 op, .int .i64 a, .int .i64 b, .slice xo n cap] 53)).heap.size) := hb1.size
 have hsv : (w.alloc (.cells #[.int .u8 op, .int .i64 a, .int .i64 b, .slice xo n cap] 53)).heap.size = w.heap.size + 1 := by simp
 have HBV : Hid (Below w.heap.size w (w.alloc (.cells #[.int .u8 op, .int .i64 a, .int .i64 b, .slice xo n cap] 53))) := hb1
 have HS : Hid (∀ w', Below (w.alloc (.cells #[.int .u8 op, .int .i64 a, .int .i64 b, .slice xo n cap] 53)).heap.size (w.alloc (.cells #[.int .u8 op, .int .i64 a, .int .i64 b, .slice xo n cap] 53)) w' → w'.cell? ⟨w.heap.size, 0, none⟩ = some (.int .u8 op) ∧ w'.cell? ⟨w.heap.size, 1, none⟩ = some (.int .i64 a) ∧ w'.cell? ⟨P, 11, none⟩ = some (.slice (some ⟨bb, ff, none⟩) L.n L.cap) ∧ w'.cell? ⟨bb, ff + a.toNat, none⟩ = some (.int .u8 kd)) := fun w' bz => by
  have hk : w'.heap[w.heap.size]? = some (.cells #[.int .u8 op, .int .i64 a, .int .i64 b, .slice xo n cap] 53 (0, 0)) := (bz.block _ (by rw [hsv]; omega)).trans hq
  exact ⟨cell_at hk 0 rfl, cell_at hk 1 rfl, (by have := (h.below (hb1.trans (bz.mono hb1.size))).k 11 (by omega); rw [show trkM m L 11 = .slice L.o L.n L.cap from rfl, ho] at this; exact this), ((hb1.trans (bz.mono hb1.size)).cell (p := ⟨bb, ff + a.toNat, none⟩) hbN).trans e9⟩
 generalize onT kd op = tt at *
 generalize onG kd op = gg at *
 obtain ⟨v, hv⟩ : ∃ v, v = (w.alloc (.cells #[.int .u8 op, .int .i64 a, .int .i64 b, .slice xo n cap] 53)) := ⟨_, rfl⟩
 have HV : Hid (v = (w.alloc (.cells #[.int .u8 op, .int .i64 a, .int .i64 b, .slice xo n cap] 53))) := hv
 rw [← hv] at HS HEO HBV HVS
 have HSv := HS.out v (Below.refl _ _)
 obtain ⟨f0, f1, f2, f3⟩ := HSv
 rw [hv] at f0 f1 f2 f3
 have b4 : (op == 4) = false := beq_eq_false_iff_ne.2 (by omega)
 have b12 : (op == 12) = false := beq_eq_false_iff_ne.2 (by omega)
 have b13 : (op == 13) = false := beq_eq_false_iff_ne.2 (by omega)
 have b14 : (op == 14) = false := beq_eq_false_iff_ne.2 (by omega)
 have b15 : (op == 15) = false := beq_eq_false_iff_ne.2 (by omega)
 have b16 : (op == 16) = false := beq_eq_false_iff_ne.2 (by omega)
 have b17 : (op == 17) = false := beq_eq_false_iff_ne.2 (by omega)
 clear h hb1 hq hsv e9 hc ho hL hLk hv hi hkd hbN
 cases m32 : (op == 32) <;> cases m33 : (op == 33) <;> cases m34 : (op == 34)
 all_goals try (exfalso; simp only [beq_iff_eq, beq_eq_false_iff_ne] at m32 m33 m34; omega)
 all_goals
  clear hop
  go_enter Tryz.func93, Tryz.ntmps93
  go_wp2
  rw [← HV.out]
  go_region_held3 (fun w' => w'.cell? ⟨w.heap.size, 0, none⟩ = some (.int .u8 op) ∧ w'.cell? ⟨w.heap.size, 1, none⟩ = some (.int .i64 a) ∧ w'.cell? ⟨P, 11, none⟩ = some (.slice (some ⟨bb, ff, none⟩) L.n L.cap) ∧ w'.cell? ⟨bb, ff + a.toNat, none⟩ = some (.int .u8 kd))
   (first | exact HS.out _ bch | go_keep)
   ((go_at_call 135; (fail_if_success (have := HT1)); refine (HEO.out _ ?_).mono ?_; exact bch; rintro r w1 ⟨d1, d2, rfl, hn1, hn2, hc1, hc2, b1⟩; have HT1 : Hid True := trivial; have HN1 : Hid (newN _ _ d1 _) := hn1; have HN2 : Hid (newN _ _ d2 _) := hn2; have HDN : Hid (d1.n ≤ 1 ∧ d2.n ≤ 1) := ⟨hc1, hc2⟩; have HA1 : Hid (Below v.heap.size v w1) := (by (refine Below.trans ?_ (b1.mono ?_) <;> first | exact bch | exact bcl)); have hs1 : v.heap.size ≤ w1.heap.size := HA1.out.size; clear b1 hn1 hn2 hc1 hc2))
  all_goals
   go_wp2
   refine bodyPost_ret (results_tmp2 rfl _ _ _) rfl ?_
   have HBF : Hid (Below w.heap.size w w1) := HBV.out.trans (HA1.out.mono HVS.out)
   exact ⟨d1, d2, rfl, EffN.new HT.out (HBV.out.trans ((bch : Below v.heap.size v _).mono HVS.out)) HN1.out (Nat.le_trans HDN.out.1 (by omega)), EffN.new HT.out (HBV.out.trans ((bch : Below v.heap.size v _).mono HVS.out)) HN2.out (Nat.le_trans HDN.out.2 (by omega)), HBF.out⟩
theorem eff_glo (op : Int) (hop : op = 35 ∨ op = 36) (N P : Nat) (m : ModD) (L : NumD) (so : Option Addr) (sc : Nat) (oo : Option Addr) (oc : Nat) (st : List Int) (ops : List BlkD) (bad : Bool) (a b : Int) (xo : Option Addr) (n cap : Nat) (xs : List Int) (w : World) (h : TK w N P (trkM m L) so sc oo oc st ops bad) (w0 : World) (hw0 : w0.heap.size ≤ N) (hb0 : Below w0.heap.size w0 w) (hm : m.ok w0) (ha0 : 0 ≤ a) (ha1 : a < (m.globals.length : Int)) :
  Calls Tryz.prog 93 #[.pointer (some ⟨P, 0, none⟩), .agg #[.int .u8 op, .int .i64 a, .int .i64 b, .slice xo n cap]] w fun r w' => ∃ d1 d2 : NumD, r = .returned (.tuple #[.slice d1.o d1.n d1.cap, .slice d2.o d2.n d2.cap]) ∧ EffN P so oo w' d1 (((m.globals[a.toNat]?).map fun d => onT d.k op).getD []) ∧ EffN P so oo w' d2 (((m.globals[a.toNat]?).map fun d => onG d.k op).getD []) ∧ Below w.heap.size w w' := by
 have hb1 : Below w.heap.size w (w.alloc (.cells #[.int .u8 op, .int .i64 a, .int .i64 b, .slice xo n cap] 53)) := (Below.refl _ _).alloc (Nat.le_refl _) _
 have HT : Hid (type_of% h) := h
 have hi : a.toNat < m.globals.length := by omega
 have hlm := hm.globals.most
 have hll := hm.globals.le
 unfold maxLen at hlm
 rw [List.getElem?_eq_getElem hi]
 obtain ⟨bb, ff, ho, hbN, hc⟩ := hm.globals.cellAt (fun e => by rw [e] at hi; exact absurd hi (by simp))
 have hcc := hc _ hb0 _ hi 0 (by omega)
 rw [getElem!_pos m.globals _ hi] at hcc
 have hkd := hm.globals.all _ (List.getElem_mem hi)
 generalize m.globals[a.toNat] = dd at *
 have e9 : w.cell? ⟨bb, ff + a.toNat * 3, none⟩ = some (.int .u8 dd.k) := hcc
 have hkd : 0 ≤ dd.k ∧ dd.k ≤ 255 := ⟨hkd.1, hkd.2.1⟩
 have hbw : bb < w.heap.size := Nat.lt_of_lt_of_le hbN hb0.size
 dsimp only [Option.map_some, Option.getD_some]
 generalize dd.k = kd at *
 have HEO : Hid (∀ w', Below (w.alloc (.cells #[.int .u8 op, .int .i64 a, .int .i64 b, .slice xo n cap] 53)).heap.size (w.alloc (.cells #[.int .u8 op, .int .i64 a, .int .i64 b, .slice xo n cap] 53)) w' → Calls Tryz.prog 135 #[.int .u8 kd, .int .u8 op] w' fun r w'' => ∃ d1 d2 : NumD, r = .returned (.tuple #[.slice d1.o d1.n d1.cap, .slice d2.o d2.n d2.cap]) ∧ newN w' w'' d1 (onT kd op) ∧ newN w' w'' d2 (onG kd op) ∧ d1.n ≤ 1 ∧ d2.n ≤ 1 ∧ Below w'.heap.size w' w'') := fun w' _ => veffectOn kd op hkd.1 hkd.2 w'
 have hq := new_block w (.cells #[.int .u8 op, .int .i64 a, .int .i64 b, .slice xo n cap] 53)
 have HVS : Hid (w.heap.size ≤ (w.alloc (.cells #[.int .u8 op, .int .i64 a, .int .i64 b, .slice xo n cap] 53)).heap.size) := hb1.size
 have hsv : (w.alloc (.cells #[.int .u8 op, .int .i64 a, .int .i64 b, .slice xo n cap] 53)).heap.size = w.heap.size + 1 := by simp
 have HBV : Hid (Below w.heap.size w (w.alloc (.cells #[.int .u8 op, .int .i64 a, .int .i64 b, .slice xo n cap] 53))) := hb1
 have HS : Hid (∀ w', Below (w.alloc (.cells #[.int .u8 op, .int .i64 a, .int .i64 b, .slice xo n cap] 53)).heap.size (w.alloc (.cells #[.int .u8 op, .int .i64 a, .int .i64 b, .slice xo n cap] 53)) w' → w'.cell? ⟨w.heap.size, 0, none⟩ = some (.int .u8 op) ∧ w'.cell? ⟨w.heap.size, 1, none⟩ = some (.int .i64 a) ∧ w'.cell? ⟨P, 6, none⟩ = some (.slice (some ⟨bb, ff, none⟩) m.globals.length m.cG) ∧ w'.cell? ⟨bb, ff + a.toNat * 3, none⟩ = some (.int .u8 kd)) := fun w' bz => by
  have hk : w'.heap[w.heap.size]? = some (.cells #[.int .u8 op, .int .i64 a, .int .i64 b, .slice xo n cap] 53 (0, 0)) := (bz.block _ (by rw [hsv]; omega)).trans hq
  exact ⟨cell_at hk 0 rfl, cell_at hk 1 rfl, (by have := (h.below (hb1.trans (bz.mono hb1.size))).k 6 (by omega); rw [show trkM m L 6 = .slice m.oG m.globals.length m.cG from rfl, ho] at this; exact this), ((hb1.trans (bz.mono hb1.size)).cell (p := ⟨bb, ff + a.toNat * 3, none⟩) hbw).trans e9⟩
 generalize onT kd op = tt at *
 generalize onG kd op = gg at *
 obtain ⟨v, hv⟩ : ∃ v, v = (w.alloc (.cells #[.int .u8 op, .int .i64 a, .int .i64 b, .slice xo n cap] 53)) := ⟨_, rfl⟩
 have HV : Hid (v = (w.alloc (.cells #[.int .u8 op, .int .i64 a, .int .i64 b, .slice xo n cap] 53))) := hv
 rw [← hv] at HS HEO HBV HVS
 have HSv := HS.out v (Below.refl _ _)
 obtain ⟨f0, f1, f2, f3⟩ := HSv
 rw [hv] at f0 f1 f2 f3
 have b4 : (op == 4) = false := beq_eq_false_iff_ne.2 (by omega)
 have b12 : (op == 12) = false := beq_eq_false_iff_ne.2 (by omega)
 have b13 : (op == 13) = false := beq_eq_false_iff_ne.2 (by omega)
 have b14 : (op == 14) = false := beq_eq_false_iff_ne.2 (by omega)
 have b15 : (op == 15) = false := beq_eq_false_iff_ne.2 (by omega)
 have b16 : (op == 16) = false := beq_eq_false_iff_ne.2 (by omega)
 have b17 : (op == 17) = false := beq_eq_false_iff_ne.2 (by omega)
 have b32 : (op == 32) = false := beq_eq_false_iff_ne.2 (by omega)
 have b33 : (op == 33) = false := beq_eq_false_iff_ne.2 (by omega)
 have b34 : (op == 34) = false := beq_eq_false_iff_ne.2 (by omega)
 clear h hb1 hq hsv e9 hc ho hcc hv hi hkd hbN hb0 hm hw0
 cases m35 : (op == 35) <;> cases m36 : (op == 36)
 all_goals try (exfalso; simp only [beq_iff_eq, beq_eq_false_iff_ne] at m35 m36; omega)
 all_goals
  clear hop
  go_enter Tryz.func93, Tryz.ntmps93
  go_wp2
  rw [← HV.out]
  go_region_held3 (fun w' => w'.cell? ⟨w.heap.size, 0, none⟩ = some (.int .u8 op) ∧ w'.cell? ⟨w.heap.size, 1, none⟩ = some (.int .i64 a) ∧ w'.cell? ⟨P, 6, none⟩ = some (.slice (some ⟨bb, ff, none⟩) m.globals.length m.cG) ∧ w'.cell? ⟨bb, ff + a.toNat * 3, none⟩ = some (.int .u8 kd))
   (first | exact HS.out _ bch | go_keep)
   ((go_at_call 135; (fail_if_success (have := HT1)); refine (HEO.out _ ?_).mono ?_; exact bch; rintro r w1 ⟨d1, d2, rfl, hn1, hn2, hc1, hc2, b1⟩; have HT1 : Hid True := trivial; have HN1 : Hid (newN _ _ d1 _) := hn1; have HN2 : Hid (newN _ _ d2 _) := hn2; have HDN : Hid (d1.n ≤ 1 ∧ d2.n ≤ 1) := ⟨hc1, hc2⟩; have HA1 : Hid (Below v.heap.size v w1) := (by (refine Below.trans ?_ (b1.mono ?_) <;> first | exact bch | exact bcl)); have hs1 : v.heap.size ≤ w1.heap.size := HA1.out.size; clear b1 hn1 hn2 hc1 hc2))
  all_goals
   go_wp2
   refine bodyPost_ret (results_tmp2 rfl _ _ _) rfl ?_
   have HBF : Hid (Below w.heap.size w w1) := HBV.out.trans (HA1.out.mono HVS.out)
   exact ⟨d1, d2, rfl, EffN.new HT.out (HBV.out.trans ((bch : Below v.heap.size v _).mono HVS.out)) HN1.out (Nat.le_trans HDN.out.1 (by omega)), EffN.new HT.out (HBV.out.trans ((bch : Below v.heap.size v _).mono HVS.out)) HN2.out (Nat.le_trans HDN.out.2 (by omega)), HBF.out⟩
end Go.Proofs.YtlfihndbnaaodaaGreatDoor
