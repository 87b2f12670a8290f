/-
 What is known ahead of an instruction: whether a part is dead, and the kinds.
 A copy of kinds; what is known ahead of an instruction.
 Every kind that is known is a byte: over values.
 Going through a body while what is known is kept.
 A step, and what is known ahead of it, while all that was known is kept.
 What Shapes says.
 What Shapes says of whatever module and number.
-/
import Derived.Test.YtlfihndbnaaodaaGreatDoorIVM
import Derived.Test.YtlfihndbnaaodaaGreatDoorIQP
import Derived.WalkSpells
import Derived.Test.YtlfihndbnaaodaaGreatDoorIVX1
import Derived.Test.YtlfihndbnaaodaaGreatDoorIVL
import Derived.Test.YtlfihndbnaaodaaGreatDoorIVN
set_option maxHeartbeats 4000000
set_option maxRecDepth 1000000
namespace Go.Proofs.YtlfihndbnaaodaaGreatDoor
open Go.RowKit
set_option linter.unusedVariables false
theorem vdead1 (b : BlkD) (w : World) : Calls Tryz.prog 48 #[.agg #[.int .u8 b.op, .slice b.ks.o b.ks.n b.ks.cap, .int .i64 (b.base : Int), .bool b.dead]] w fun r w' => r = .returned (.bool b.dead) ∧ Below w.heap.size w w' := by
 have hb : Below w.heap.size w (w.alloc (.cells #[.int .u8 b.op, .slice b.ks.o b.ks.n b.ks.cap, .int .i64 (b.base : Int), .bool b.dead] 107)) := (Below.refl _ _).alloc (Nat.le_refl _) _
 have HB : Hid (type_of% hb) := hb
 clear hb
 go_enter Tryz.func48, Tryz.ntmps48
 go_wp2
 go_ret
 exact ⟨rfl, HB.out⟩
theorem index_dead (oo : Option Addr) (n cap : Nat) (ops : List BlkD) (w : World) (hl : ops.length = n) (hcap : n ≤ cap) (hcm : cap ≤ 9223372036854775807) (hat : ops = [] ∨ ∃ b f, oo = some ⟨b, f, none⟩ ∧ b < w.heap.size ∧ ∀ i (h : i < ops.length) r, r < 4 → w.cell? ⟨b, f + i * 4 + r, none⟩ = (BlkD.cells ops[i])[r]?) :
  Calls Tryz.prog 76 #[.slice oo n cap, .func (.func 48) #[] #[]] w fun r w' => ∃ z : Int, r = .returned (.int .i64 z) ∧ decide (0 ≤ z) = ops.any BlkD.dead ∧ Below w.heap.size w w' := by
 have HAT : Hid (type_of% hat) := hat
 have HL : Hid (ops.length = n) := hl
 clear hat hl
 go_enter Tryz.func76, Tryz.ntmps76
 go_wp2
 go_loopw [8] (fun iv wr => ∃ j : Nat, iv = .int .i64 (j : Int) ∧ j ≤ n ∧ Hid ((ops.take j).any BlkD.dead = false) ∧ Hid (Below w.heap.size w wr)) (fun iv _ => n - (intOf iv).toNat)
 case atStart => exact ⟨0, rfl, by omega, rfl, Below.refl _ _⟩
 case round =>
  obtain ⟨j, rfl, hj, HA, HB⟩ := hrel
  by_cases hlt : j < n
  ·have hx : j < ops.length := by rw [HL.out]; exact hlt
   have HXL : Hid (j < ops.length) := hx
   obtain ⟨b, f, rfl, hbN, hcl⟩ := HAT.out.resolve_left (fun e => by rw [e] at hx; exact absurd hx (by simp))
   have ec (r : Nat) (hr : r < 4) : wr.cell? ⟨b, f + j * 4 + r, none⟩ = (BlkD.cells ops[j])[r]? := by
    rw [HB.out.cell (p := ⟨b, f + j * 4 + r, none⟩) hbN]
    exact hcl j hx r hr
   have e0 := ec 0 (by omega)
   have e1 := ec 1 (by omega)
   have e2 := ec 2 (by omega)
   have e3 := ec 3 (by omega)
   have HC : Hid (type_of% (vdead1 ops[j] wr)) := vdead1 ops[j] wr
   generalize hd : ops[j] = d at e0 e1 e2 e3 HC ec
   have HDE : Hid (ops[j]'HXL.out = d) := hd
   simp only [BlkD.cells, List.getElem?_cons_zero, List.getElem?_cons_succ, Nat.add_zero] at e0 e1 e2 e3
   have hki0 : (0 : Int) ≤ (j : Int) := by omega
   have hki1 : (j : Int) < (n : Int) := by omega
   clear hcl hx hd ec
   go_wp2_with fail
   refine HC.out.mono ?_
   rintro r w2 ⟨rfl, hb2⟩
   have HB2 : Hid (Below w.heap.size w w2) := HB.out.trans (hb2.mono HB.out.size)
   clear hb2 e0 e1 e2 e3 HC
   rcases hp : d.dead with _ | _
   ·have HA2 : Hid ((ops.take (j + 1)).any BlkD.dead = false) := any_snoc _ _ _ HXL.out HA.out (by rw [HDE.out]; exact hp)
    go_wp2
    go_roundw
    case rel => exact ⟨j + 1, by go_num, by omega, HA2, HB2⟩
    case measure => simp [intOf]; omega
   ·have HA2 : Hid (ops.any BlkD.dead = true) := by
     unfold Hid
     rw [List.any_eq_true]
     exact ⟨ops[j]'HXL.out, List.getElem_mem _, by rw [HDE.out]; exact hp⟩
    go_wp2
    refine bodyPost_ret (results_tmp rfl _ _ _) rfl ?_
    exact ⟨(j : Int), rfl, by rw [HA2.out]; exact decide_eq_true hki0, HB2.out⟩
  ·have HA2 : Hid (ops.any BlkD.dead = false) := by
    have h := HA.out
    rw [List.take_of_length_le (by rw [HL.out]; omega)] at h
    exact h
   go_wp2
   go_ret
   exact ⟨-1, rfl, by rw [HA2.out]; rfl, HB.out⟩
theorem contains_dead (oo : Option Addr) (n cap : Nat) (ops : List BlkD) (w : World) (hl : ops.length = n) (hcap : n ≤ cap) (hcm : cap ≤ 9223372036854775807) (hat : ops = [] ∨ ∃ b f, oo = some ⟨b, f, none⟩ ∧ b < w.heap.size ∧ ∀ i (h : i < ops.length) r, r < 4 → w.cell? ⟨b, f + i * 4 + r, none⟩ = (BlkD.cells ops[i])[r]?) :
  Calls Tryz.prog 47 #[.slice oo n cap, .func (.func 48) #[] #[]] w fun r w' => r = .returned (.bool (ops.any BlkD.dead)) ∧ Below w.heap.size w w' := by
 have HI : Hid (type_of% (index_dead oo n cap ops w hl hcap hcm hat)) := index_dead oo n cap ops w hl hcap hcm hat
 clear hat hl
 go_enter Tryz.func47, Tryz.ntmps47
 go_wp2_with fail
 refine HI.out.mono ?_
 rintro r w1 ⟨z, rfl, hz, hb⟩
 have HZ : Hid (decide (0 ≤ z) = ops.any BlkD.dead) := hz
 have HB : Hid (type_of% hb) := hb
 clear hz hb HI
 go_wp2
 go_ret
 exact ⟨by rw [HZ.out]; rfl, HB.out⟩
end Go.Proofs.YtlfihndbnaaodaaGreatDoor
namespace Go.Proofs.YtlfihndbnaaodaaGreatDoor
open Go.RowKit
set_option linter.unusedVariables false
theorem eql_some (a : Addr) (n c : Nat) (w : World) : (binOp .eql 41 (.slice (some a) n c) (.slice none 0 0)).run Tryz.prog w = .ok (.bool false) w := by
 simp only [binOp]
 simp [Op.equal, Op.maxDepth, Lib.run_equalIn_slice_nil w 9999 41 69 (some a) n c 0 0 Tryz.underlying41]
theorem vclone (d : NumD) (w : World) (hd : d.ok .u8 w) (hn : d.n ≤ 1099511610000) : Calls Tryz.prog 49 #[.slice d.o d.n d.cap] w fun r w' => ∃ c : NumD, r = .returned (.slice c.o c.n c.cap) ∧ c.n = d.n ∧ newN w w' c d.xs ∧ Below w.heap.size w w' := by
 obtain ⟨o, n, cap, xs⟩ := d
 have hlen : xs.length = n := hd.len
 dsimp only at hn ⊢
 cases o with
 | none =>
  have hc0 : cap = 0 := hd.nil rfl
  have hle : n ≤ cap := hd.le
  obtain rfl : n = 0 := by omega
  obtain rfl : xs = [] := List.length_eq_zero_iff.1 hlen
  subst hc0
  clear hd hlen
  have hE := run_eql_nil_slice (P := Tryz.prog) w 41 69 none 0 0 0 0 Tryz.underlying41
  go_enter Tryz.func49, Tryz.ntmps49
  go_wp2
  go_ret
  exact ⟨⟨none, 0, 0, []⟩, rfl, rfl, newN_nil _ _, Below.refl _ _⟩
 | some a =>
  obtain ⟨i0, hi, hz0, hz1, hz2⟩ := info_parts infoK9
  have hE := eql_some a n cap w
  have hb : Below w.heap.size w (w.alloc (.cells #[] 69)) := (Below.refl _ _).alloc (Nat.le_refl _) _
  by_cases h0 : n = 0
  ·subst h0
   obtain rfl : xs = [] := List.length_eq_zero_iff.1 hlen
   have HB : Hid (type_of% hb) := hb
   clear hd hlen hb
   go_enter Tryz.func49, Tryz.ntmps49
   go_wp2_with (at_builtin; refine wpList_append_zero rfl _ _ 41 rfl 69 i0 Tryz.underlying41 hi _ _ _ rfl (by omega) a cap rfl ?_)
   go_ret
   exact ⟨⟨some ⟨w.heap.size, 0, none⟩, 0, 0, []⟩, rfl, rfl, ⟨rfl, ⟨Nat.le_refl _, Nat.zero_le _, rfl, fun h => by (cases h), fun x hx => by (cases hx), Or.inl rfl⟩, Or.inl rfl⟩, HB.out⟩
  ·obtain ⟨a', e, hab, hac⟩ := hd.at'.resolve_left h0
   obtain rfl : a = a' := Option.some.inj e
   have HN : Hid (∀ j u, (xs.map (Value.int .u8))[j]? = some u → (w.alloc (.cells #[] 69)).cell? (a.add j) = some u) := fun j u hu => by
    rw [List.getElem?_map] at hu
    obtain ⟨x, hx, rfl⟩ := Option.map_eq_some_iff.1 hu
    have hj : j < n := by rw [← hlen]; exact (List.getElem?_eq_some_iff.1 hx).1
    rw [hb.cell (p := a.add j) (by rw [add_block]; exact hab), hac j hj, List.getD_eq_getElem?_getD, hx]
    rfl
   have HOW : Hid (World.ownsRow (w.alloc (.cells #[] 69)) w.heap.size 69 1 (.slice (some ⟨w.heap.size, 0, none⟩) 0 0) 0 []) := World.ownsRow_lit w #[] 0 (Nat.le_refl _) (by unfold maxLen; omega) rfl
   have HB : Hid (type_of% hb) := hb
   have HWF : Hid (∀ x ∈ xs, (Lit.int .u8 x).wf = true) := hd.wf
   have HL : Hid (xs.length = n) := hlen
   have hn0 : 0 < n := by omega
   clear hd hlen hb hab hac e
   go_enter Tryz.func49, Tryz.ntmps49
   go_wp2_with (at_builtin; refine wpList_append_lies _ rfl _ _ 41 rfl w.heap.size 69 i0 (.int .u8 0) 1 1 Tryz.underlying41 hi hz0 hz1 hz2 rfl (by decide) _ 0 [] rfl HOW.out a n cap (xs.map (Value.int .u8)) rfl ?hl HN.out ?one hn0 ?a3 ?a4 ?base (w.heap.size + 1) ?sz ?_)
   case hl => rw [List.length_map, HL.out, Nat.mul_one]
   case one => (intro u hu; obtain ⟨x, _, rfl⟩ := List.mem_map.1 hu; rfl)
   case a3 => (unfold maxLen; omega)
   case a4 => omega
   case base => simp
   case sz => simp
   intro g c w2 hown hgrow hat hlt
   have hb2 : Below w.heap.size w w2 := HB.out.grown hgrow (by simp) (fun j hj => (HOW.out.lt j hj).1)
   have HB2 : Hid (type_of% hb2) := hb2
   have HO : Hid (w2.ownsRow w.heap.size 69 1 (.slice (some ⟨g, 0, none⟩) n c) n (xs.map (Value.int .u8))) := hown
   clear hown hgrow hat hlt hb2 HN HOW HB
   go_wp2
   go_ret
   have hk := num_of_own HO.out HWF.out
   exact ⟨⟨some ⟨g, 0, none⟩, n, c, xs⟩, rfl, rfl, ⟨rfl, hk.1, hk.2⟩, HB2.out⟩
theorem TK.opat {w : World} {N P : Nat} {M : Nat → Value} {so : Option Addr} {sc : Nat} {oo : Option Addr} {oc : Nat} {st : List Int} {ops : List BlkD} {bad : Bool} (h : TK w N P M so sc oo oc st ops bad) : (ops = [] ∨ ∃ b f, oo = some ⟨b, f, none⟩ ∧ b < w.heap.size ∧ ∀ i (h : i < ops.length) r, r < 4 → w.cell? ⟨b, f + i * 4 + r, none⟩ = (BlkD.cells ops[i])[r]?) ∧ ops.length ≤ oc ∧ oc ≤ 9223372036854775807 := by
 rcases h.opn.2 with ⟨h1, h2⟩ | ⟨g, c, cur, h1, hb, hg, h3, h4, _⟩
 ·simp only [Value.slice.injEq] at h1
  exact ⟨Or.inl (List.length_eq_zero_iff.1 h2), by omega, by omega⟩
 ·have hv := h1
  simp only [Value.slice.injEq] at h1
  obtain ⟨rfl, _, rfl⟩ := h1
  unfold maxLen at h4
  refine ⟨Or.inr ⟨g, 0, rfl, some_lt hg, fun i hi r hr => ?_⟩, h3, h4⟩
  rw [Nat.zero_add]
  exact (h.opn.cellAt (i * 4 + r) (by omega)).trans (flat_at BlkD.cells 4 (fun _ => rfl) ops i r hi hr)
theorem infoShape : (Tryz.prog.info? 43).map (·.size) = some (2 : Nat) := by kernel_rfl
theorem NumD.ok.chg2 {k : IntKind} {w w' : World} {d : NumD} {P : Nat} (h : d.ok k w) (c : Chg P w w') (hP : ∀ a : Addr, d.o = some a → d.n ≠ 0 → a.block ≠ P) : d.ok k w' := by
 refine ⟨h.le, h.most, h.len, h.nil, h.wf, ?_⟩
 rcases h.at' with h0 | ⟨a, h1, h2, h3⟩
 ·exact Or.inl h0
 ·by_cases hn : d.n = 0
  ·exact Or.inl hn
  ·refine Or.inr ⟨a, h1, Nat.lt_of_lt_of_le h2 c.size, fun i hi => ?_⟩
   have hb : w'.heap[(a.add i).block]? = w.heap[(a.add i).block]? := by rw [add_block]; exact c.block _ h2 (hP a h1 hn)
   exact (World.cell?_of_block hb).trans (h3 i hi)
def shpV (T : TrkV) : Bool × List Int := if T.ops.any BlkV.dead then (true, []) else (false, T.st)
theorem vshape (N P : Nat) (M : Nat → Value) (so : Option Addr) (sc : Nat) (oo : Option Addr) (oc : Nat) (st : List Int) (ops : List BlkD) (bad : Bool) (w : World) (h : TK w N P M so sc oo oc st ops bad) (hst : st.length ≤ 1099511610000) (hk : ∀ x ∈ st, (Lit.int .u8 x).wf = true) :
  Calls Tryz.prog 26 #[.pointer (some ⟨P, 0, none⟩)] w fun r w' => ∃ c : NumD, r = .returned (.agg #[.bool (shpV ⟨st, ops.map BlkD.val, bad⟩).1, .slice c.o c.n c.cap]) ∧ newN w w' c (shpV ⟨st, ops.map BlkD.val, bad⟩).2 ∧ Below w.heap.size w w' := by
 have hb1 : Below w.heap.size w (w.alloc (.cells #[.bool false, .slice none 0 0] 43)) := (Below.refl _ _).alloc (Nat.le_refl _) _
 obtain ⟨hat, hoc, hcm⟩ := (h.below hb1).opat
 have HC : Hid (type_of% (contains_dead oo ops.length oc ops _ rfl hoc hcm hat)) := contains_dead oo ops.length oc ops _ rfl hoc hcm hat
 have k13 := (h.below hb1).c13
 have HB1 : Hid (type_of% hb1) := hb1
 have HTK : Hid (type_of% h) := h
 have HST : Hid (st.length ≤ 1099511610000 ∧ ∀ x ∈ st, (Lit.int .u8 x).wf = true) := ⟨hst, hk⟩
 have hda : (ops.map BlkD.val).any BlkV.dead = ops.any BlkD.dead := by rw [List.any_map]; rfl
 have HDA : Hid (type_of% hda) := hda
 clear hat hoc hcm hb1 h hst hk hda
 go_enter Tryz.func26, Tryz.ntmps26
 go_wp2_with fail
 refine HC.out.mono ?_
 rintro r w1 ⟨rfl, b1⟩
 have q1 := (b1.block w.heap.size (by simp)).trans (heap_alloc_new w _)
 have hb2 : Below w.heap.size w w1 := HB1.out.trans (b1.mono (by simp))
 have hs1 : w.heap.size + 1 ≤ w1.heap.size := by have := b1.size; simp at this; exact this
 cases hp : ops.any BlkD.dead with
 | true =>
  have HV : Hid (shpV ⟨st, ops.map BlkD.val, bad⟩ = (true, [])) := by unfold Hid shpV; rw [if_pos (by rw [HDA.out]; exact hp)]
  have z0 : w1.frozen? ⟨w.heap.size, 0, none⟩ = false := by simp [World.frozen?, q1]
  have z1 : w1.frozen? ⟨w.heap.size, 1, none⟩ = false := by simp [World.frozen?, q1]
  have c0 := cell_at q1 0 rfl
  have c1 := cell_at q1 1 rfl
  have HB2 : Hid (type_of% hb2) := hb2
  have HQ : Hid (type_of% q1) := q1
  have HS : Hid (type_of% hs1) := hs1
  clear b1 hb2 q1 HC k13 hs1 hp
  go_wp2
  have hch : Chg w.heap.size w1 ((w1.setCell ⟨w.heap.size, 0, none⟩ (.bool true)).setCell ⟨w.heap.size, 1, none⟩ (.slice none 0 0)) := (Chg.set _ _ _ _).trans (Chg.set _ _ _ _)
  have hrow : ((w1.setCell ⟨w.heap.size, 0, none⟩ (.bool true)).setCell ⟨w.heap.size, 1, none⟩ (.slice none 0 0)).heap[w.heap.size]? = some (.cells #[.bool true, .slice none 0 0] 43 (0, 0)) := by simp [World.setCell, Array.getElem?_modify, HQ.out]
  refine bodyPost_ret (results_cell_row rfl _ _ w.heap.size 43 #[.bool true, .slice none 0 0] (0, 0) _ rfl hrow Tryz.underlying43 rfl infoShape) rfl ?_
  have hss := HS.out
  exact ⟨⟨none, 0, 0, []⟩, by rw [HV.out], by rw [HV.out]; exact newN_nil _ _, HB2.out.trans (hch.below (Nat.le_refl _) (by omega))⟩
 | false =>
  have HV : Hid (shpV ⟨st, ops.map BlkD.val, bad⟩ = (false, st)) := by unfold Hid shpV; rw [if_neg (by rw [HDA.out, hp]; decide)]
  have htk := HTK.out.below hb2
  have k12 := htk.c12
  have hnum := num_of_own htk.stk HST.out.2
  have HCL : Hid (type_of% (vclone ⟨so, st.length, sc, st⟩ w1 hnum.1 HST.out.1)) := vclone ⟨so, st.length, sc, st⟩ w1 hnum.1 HST.out.1
  have HB2 : Hid (type_of% hb2) := hb2
  have HQ : Hid (type_of% q1) := q1
  have HS : Hid (type_of% hs1) := hs1
  clear b1 hb2 q1 HC k13 hs1 hp htk hnum
  go_wp2_with fail
  refine HCL.out.mono ?_
  rintro r w2 ⟨c, rfl, -, hnew, b2⟩
  have q2 := (b2.block w.heap.size (some_lt HQ.out)).trans HQ.out
  have z0 : w2.frozen? ⟨w.heap.size, 0, none⟩ = false := by simp [World.frozen?, q2]
  have z1 : w2.frozen? ⟨w.heap.size, 1, none⟩ = false := by simp [World.frozen?, q2]
  have c0 := cell_at q2 0 rfl
  have c1 := cell_at q2 1 rfl
  have hb3 : Below w.heap.size w w2 := HB2.out.trans (b2.mono HB2.out.size)
  have HB3 : Hid (type_of% hb3) := hb3
  have HQ2 : Hid (type_of% q2) := q2
  have HNW : Hid (type_of% hnew) := hnew
  have HB9 : Hid (w1.heap.size ≤ w2.heap.size) := b2.size
  clear b2 hb3 q2 hnew HCL
  go_wp2
  have hch : Chg w.heap.size w2 ((w2.setCell ⟨w.heap.size, 0, none⟩ (.bool false)).setCell ⟨w.heap.size, 1, none⟩ (.slice c.o c.n c.cap)) := (Chg.set _ _ _ _).trans (Chg.set _ _ _ _)
  have hrow : ((w2.setCell ⟨w.heap.size, 0, none⟩ (.bool false)).setCell ⟨w.heap.size, 1, none⟩ (.slice c.o c.n c.cap)).heap[w.heap.size]? = some (.cells #[.bool false, .slice c.o c.n c.cap] 43 (0, 0)) := by simp [World.setCell, Array.getElem?_modify, HQ2.out]
  refine bodyPost_ret (results_cell_row rfl _ _ w.heap.size 43 #[.bool false, .slice c.o c.n c.cap] (0, 0) _ rfl hrow Tryz.underlying43 rfl infoShape) rfl ?_
  have hss := HS.out
  have hs9 := HB9.out
  refine ⟨c, by rw [HV.out], ?_, HB3.out.trans (hch.below (Nat.le_refl _) (by omega))⟩
  rw [HV.out]
  obtain ⟨n1, n2, n3⟩ := HNW.out
  refine ⟨n1, n2.chg2 hch ?_, ?_⟩
  ·intro a ha h0
   rcases n3 with n3 | ⟨a', e, n3⟩
   ·exact absurd n3 h0
   ·rw [e] at ha
    obtain rfl := Option.some.inj ha
    omega
  ·rcases n3 with n3 | ⟨a', e, n3⟩
   ·exact Or.inl n3
   ·exact Or.inr ⟨a', e, by omega⟩
end Go.Proofs.YtlfihndbnaaodaaGreatDoor
namespace Go.Proofs.YtlfihndbnaaodaaGreatDoor
open Go.RowKit
set_option linter.unusedVariables false
def U8 (l : List Int) : Prop := ∀ x ∈ l, 0 ≤ x ∧ x ≤ 255
theorem U8.nil : U8 [] := fun x hx => by cases hx
theorem U8.app {a b : List Int} (h : U8 a) (k : U8 b) : U8 (a ++ b) := fun x hx => by
 rcases List.mem_append.1 hx with q | q
 ·exact h x q
 ·exact k x q
theorem U8.one {x : Int} (h0 : 0 ≤ x) (h1 : x ≤ 255) : U8 [x] := fun y hy => by
 obtain rfl : y = x := by simpa using hy
 exact ⟨h0, h1⟩
theorem U8.take {l : List Int} (h : U8 l) (n : Nat) : U8 (l.take n) := fun x hx => h x (List.mem_of_mem_take hx)
theorem U8.init {l : List Int} (h : U8 l) : U8 l.dropLast := fun x hx => h x (List.dropLast_subset _ hx)
theorem U8.last {l : List Int} (h : U8 l) : 0 ≤ l.getLastD 0 ∧ l.getLastD 0 ≤ 255 := by
 rcases List.eq_nil_or_concat l with rfl | ⟨a, x, rfl⟩
 ·exact ⟨by decide, by decide⟩
 ·rw [List.concat_eq_append] at h ⊢
  have : (a ++ [x]).getLastD 0 = x := by simp [List.getLastD_eq_getLast?]
  rw [this]
  exact h x (by simp)
theorem takeV_u8 {k : Int} {st : List Int} {b : BlkV} {bad : Bool} (h : U8 st) (hk : 0 ≤ k ∧ k ≤ 255) : U8 (takeV k st b bad).2.1 ∧ 0 ≤ (takeV k st b bad).1 ∧ (takeV k st b bad).1 ≤ 255 := by
 unfold takeV
 split
 ·exact ⟨h, hk⟩
 ·refine ⟨h.init, ?_⟩
  show 0 ≤ (if k = 0 then st.getLastD 0 else k) ∧ (if k = 0 then st.getLastD 0 else k) ≤ 255
  split
  ·exact h.last
  ·exact hk
theorem takeV_st {k : Int} {st : List Int} {b : BlkV} {bad : Bool} (h : U8 st) : U8 (takeV k st b bad).2.1 := by
 unfold takeV
 split
 ·exact h
 ·exact h.init
theorem tksV_u8 {b : BlkV} : ∀ (l : List Int) {s : List Int × Bool}, U8 s.1 → U8 (tksV b l s).1
 | [], _, h => h
 | k :: l, s, h => by
  rw [tksV_cons]
  exact tksV_u8 l (takeV_st h)
theorem finV_u8 {st : List Int} {b : BlkV} {bad : Bool} (h : U8 st) : U8 (finV st b bad).1 := tksV_u8 _ h
theorem chooseV_u8 {st : List Int} {b : BlkV} {bad : Bool} (h : U8 st) : U8 (chooseV st b bad).1 := by
 have r1 := takeV_u8 (k := 127) (b := b) (bad := bad) h ⟨by decide, by decide⟩
 have r2 := takeV_u8 (k := 0) (b := b) (bad := (takeV 127 st b bad).2.2) r1.1 ⟨by decide, by decide⟩
 have r3 := takeV_u8 (k := (takeV 0 (takeV 127 st b bad).2.1 b (takeV 127 st b bad).2.2).1) (b := b) (bad := (takeV 0 (takeV 127 st b bad).2.1 b (takeV 127 st b bad).2.2).2.2) r2.1 r2.2
 exact r3.1.app (U8.one r3.2.1 r3.2.2)
theorem kMem_u8 (op : Int) : 0 ≤ kMem op ∧ kMem op ≤ 255 := by
 unfold kMem
 split <;> exact ⟨by decide, by decide⟩
theorem kGive_u8 (op : Int) : 0 ≤ kGive op ∧ kGive op ≤ 255 := by
 unfold kGive
 repeat' split
 all_goals exact ⟨by decide, by decide⟩
theorem pOut_u8 (op : Int) : U8 (pOut op) := by
 unfold pOut
 repeat' split
 all_goals first | exact U8.nil | exact U8.one (by decide) (by decide) | exact U8.one (kMem_u8 op).1 (kMem_u8 op).2 | exact U8.one (kGive_u8 op).1 (kGive_u8 op).2
theorem opt_u8 {α : Type} {f : α → List Int} {x : Option α} (h : ∀ a, x = some a → U8 (f a)) : U8 ((x.map f).getD []) := by
 cases x with
 | none => exact U8.nil
 | some a => exact h a rfl
theorem along_u8 {b : BlkV} (h : U8 b.ks) : U8 b.along := by
 unfold BlkV.along
 split
 ·exact U8.nil
 ·exact h
theorem onG_u8 {k op : Int} (h0 : 0 ≤ k) (h1 : k ≤ 255) : U8 (onG k op) := by
 unfold onG
 split
 ·exact U8.one h0 h1
 ·first | exact U8.nil | exact U8.one h0 h1
structure KindsU8 (m : ModD) (loc : List Int) : Prop where
 ty : ∀ d ∈ m.types, U8 d.r.xs
 gl : ∀ d ∈ m.globals, 0 ≤ d.k ∧ d.k ≤ 255
 lo : U8 loc
theorem bang_u8 {LT : List SigD} (h : ∀ d ∈ LT, U8 d.r.xs) (k : Nat) : U8 (LT[k]!).r.xs := by
 by_cases hk : k < LT.length
 ·rw [getElem!_pos LT k hk]; exact h _ (List.getElem_mem hk)
 ·rw [getElem!_neg LT k hk]; exact U8.nil
theorem eff_u8 {m : ModD} {loc : List Int} {ops : List BlkV} (op a : Int) (hm : KindsU8 m loc) (hk : ∀ b ∈ ops, U8 b.ks) : U8 (effV m loc ops op a).2 := by
 unfold effV
 split
 ·exact U8.nil
 split
 ·exact U8.nil
 split
 ·exact opt_u8 fun b e => along_u8 (hk b (List.mem_of_getElem? e))
 split
 ·exact U8.nil
 split
 ·exact U8.nil
 split
 ·show U8 (sigAt m.types m.imports m.funcs a.toNat).r.xs
  unfold sigAt
  split
  ·exact bang_u8 hm.ty _
  ·exact bang_u8 hm.ty _
 split
 ·exact opt_u8 fun d e => hm.ty d (List.mem_of_getElem? e)
 split
 ·exact opt_u8 fun k e => onG_u8 (hm.lo k (List.mem_of_getElem? e)).1 (hm.lo k (List.mem_of_getElem? e)).2
 split
 ·exact opt_u8 fun d e => onG_u8 (hm.gl d (List.mem_of_getElem? e)).1 (hm.gl d (List.mem_of_getElem? e)).2
 ·exact pOut_u8 op
structure TrkV.u8 (T : TrkV) : Prop where
 st : U8 T.st
 ks : ∀ b ∈ T.ops, U8 b.ks
theorem pass1_u8 {m : ModD} {loc st : List Int} {pre : List BlkV} {b : BlkV} {bad : Bool} {op a : Int} (hm : KindsU8 m loc) (h : TrkV.u8 ⟨st, pre ++ [b], bad⟩) : (pass1 m loc st pre b bad op a).u8 := by
 have hb : U8 b.ks := h.ks b (by simp)
 have hp : ∀ x ∈ pre, U8 x.ks := fun x hx => h.ks x (by simp [hx])
 unfold pass1
 split
 ·exact ⟨takeV_st h.st, h.ks⟩
 split
 ·exact ⟨chooseV_u8 h.st, h.ks⟩
 split
 ·refine ⟨finV_u8 h.st, fun x hx => ?_⟩
  rcases List.mem_append.1 hx with q | q
  ·exact hp x q
  ·obtain rfl : x = { b with op := 5, dead := false } := by simpa using q
   exact hb
 split
 ·exact ⟨(finV_u8 h.st).app hb, hp⟩
 ·exact ⟨(tksV_u8 _ h.st).app (eff_u8 op a hm h.ks), h.ks⟩
theorem ksOf_u8 {a : Int} (h0 : 0 ≤ a) (h1 : a ≤ 255) : U8 (ksOf a) := by
 unfold ksOf
 split
 ·exact U8.nil
 ·exact U8.one h0 h1
theorem passV_u8 {m : ModD} {loc st : List Int} {pre : List BlkV} {b : BlkV} {bad : Bool} {op a : Int} (hm : KindsU8 m loc) (h : TrkV.u8 ⟨st, pre ++ [b], bad⟩) (ha : op = 2 ∨ op = 3 ∨ op = 4 → 0 ≤ a ∧ a ≤ 255) : (passV m loc st pre b bad op a).u8 := by
 have h1 := pass1_u8 (op := op) (a := a) hm h
 unfold passV
 split
 ·rename_i ho
  refine ⟨h1.st, fun x hx => ?_⟩
  rcases List.mem_append.1 hx with q | q
  ·exact h1.ks x q
  ·obtain rfl : x = ⟨op, ksOf a, _, false⟩ := by simpa using q
   exact ksOf_u8 (ha ho).1 (ha ho).2
 split
 ·refine ⟨h1.st.take _, fun x hx => ?_⟩
  rcases List.mem_append.1 hx with q | q
  ·exact h.ks x (by simp [q])
  ·obtain rfl : x = { b with dead := true } := by simpa using q
   exact h.ks b (by simp)
 ·exact h1
theorem step_u8 {m : ModD} {loc st : List Int} {pre : List BlkV} {b : BlkV} {op a : Int} {xs : List Int} (hm : KindsU8 m loc) (h : TrkV.u8 ⟨st, pre ++ [b], false⟩) (ha : op = 2 ∨ op = 3 ∨ op = 4 → 0 ≤ a ∧ a ≤ 255) (hz : (stepV m loc st pre b false op a xs).1 = 0) : (stepV m loc st pre b false op a xs).2.u8 := by
 obtain ⟨_, _, _, _, h5⟩ := step_zero hz
 rw [h5]
 exact passV_u8 hm h ha
end Go.Proofs.YtlfihndbnaaodaaGreatDoor
namespace Go.Proofs.YtlfihndbnaaodaaGreatDoor
open Go.RowKit
set_option linter.unusedVariables false
structure ShpD where
 dead : Bool
 k : NumD
def ShpD.cells (d : ShpD) : List Value := [.bool d.dead, .slice d.k.o d.k.n d.k.cap]
structure GS (N P : Nat) (m : ModD) (L : NumD) (T : TrkV) (D : List ShpD) (os : Option Addr) (cs : Nat) (w : World) (so : Option Addr) (sc : Nat) (oo : Option Addr) (oc : Nat) (ops : List BlkD) : Prop where
 tk : TK w N P (trkM m L) so sc oo oc T.st ops T.bad
 val : ops.map BlkD.val = T.ops
 few : ∀ b ∈ ops, b.ks.n ≤ 10
 lok : L.ok .u8 w
 lof : offRow P so oo L
 row : w.ownsRow N 43 2 (.slice os D.length cs) D.length (D.flatMap ShpD.cells)
 shp : ∀ d ∈ D, d.k.ok .u8 w ∧ offRow P so oo d.k
 off : ∀ g, os = some ⟨g, 0, none⟩ → g < w.heap.size ∧ g ≠ P ∧ (∀ q : Addr, so = some q → g ≠ q.block) ∧ (∀ q : Addr, oo = some q → g ≠ q.block) ∧ offB g L ∧ (∀ b ∈ ops, offB g b.ks) ∧ ∀ d ∈ D, offB g d.k
section
variable {N P : Nat} {m : ModD} {L : NumD} {T : TrkV} {D : List ShpD} {os : Option Addr} {cs : Nat} {w w' : World} {so : Option Addr} {sc : Nat} {oo : Option Addr} {oc : Nat} {ops : List BlkD}
theorem GS.below (h : GS N P m L T D os cs w so sc oo oc ops) (b : Below w.heap.size w w') : GS N P m L T D os cs w' so sc oo oc ops :=
 ⟨h.tk.below b, h.val, h.few, h.lok.below b, h.lof, own_below h.row b, fun d hd => ⟨(h.shp d hd).1.below b, (h.shp d hd).2⟩, fun g hg => ⟨Nat.lt_of_lt_of_le (h.off g hg).1 b.size, (h.off g hg).2⟩⟩
theorem NumD.ok.off {d : NumD} {G : Nat} (h : d.ok .u8 w) (c : Chg G w w') (ho : offB G d) : d.ok .u8 w' := h.chg2 c fun a ha hn => by
 rcases ho with h0 | ⟨a', e, hne⟩
 ·exact absurd h0 hn
 ·rw [e] at ha
  obtain rfl := Option.some.inj ha
  exact hne
theorem TK.off {M : Nat → Value} {st : List Int} {bad : Bool} {G : Nat} (h : TK w N P M so sc oo oc st ops bad) (c : Chg G w w') (h1 : G ≠ P) (h2 : ∀ q : Addr, so = some q → G ≠ q.block) (h3 : ∀ q : Addr, oo = some q → G ≠ q.block) (h4 : ∀ b ∈ ops, offB G b.ks) : TK w' N P M so sc oo oc st ops bad := by
 refine ⟨by rw [c.block P h.lt (Ne.symm h1)]; exact h.box, own_chg h.stk c ?_, own_chg h.opn c ?_, fun b hb => ⟨(h.kin b hb).1.off c (h4 b hb), (h.kin b hb).2⟩, h.np⟩
 ·cases so with
  | none => simp [Value.ownBlock]
  | some q => simp only [Value.ownBlock, ne_eq, Option.some.injEq]; exact fun e => h2 q rfl e.symm
 ·cases oo with
  | none => simp [Value.ownBlock]
  | some q => simp only [Value.ownBlock, ne_eq, Option.some.injEq]; exact fun e => h3 q rfl e.symm
theorem GS.step (h : GS N P m L T D os cs w so sc oo oc ops) {T' : TrkV} {so' : Option Addr} {sc' : Nat} {oo' : Option Addr} {oc' : Nat} {ops' : List BlkD} (k1 : TK w' N P (trkM m L) so' sc' oo' oc' T'.st ops' T'.bad) (k2 : TF P so oo w so' oo' w') (k3 : ops'.map BlkD.val = T'.ops) (k4 : ∀ b ∈ ops', b.ks.n ≤ 10) (k5 : KeepB w ops ops') : GS N P m L T' D os cs w' so' sc' oo' oc' ops' := by
 refine ⟨k1, k3, k4, h.lok.tf k2 h.lof, h.lof.tf h.lok k2, ?_, fun d hd => ⟨(h.shp d hd).1.tf k2 (h.shp d hd).2, (h.shp d hd).2.tf (h.shp d hd).1 k2⟩, fun g hg => ?_⟩
 ·refine ⟨h.row.1, ?_⟩
  rcases h.row.2 with hn | ⟨g, c, cur, hv, hb, hg, rest⟩
  ·exact Or.inl hn
  ·have ho : os = some ⟨g, 0, none⟩ := by simp only [Value.slice.injEq] at hv; exact hv.1
   obtain ⟨o0, o1, o2, o3, _⟩ := h.off g ho
   exact Or.inr ⟨g, c, cur, hv, hb, by rw [k2.block g o0 o1 o2 o3]; exact hg, rest⟩
 ·obtain ⟨o0, o1, o2, o3, o4, o5, o6⟩ := h.off g hg
  refine ⟨Nat.lt_of_lt_of_le o0 k2.size, o1, fun q e => ?_, fun q e => ?_, o4, k5 g o0 o5, o6⟩
  ·rcases k2.s with e2 | ⟨g2, e2, hl⟩
   ·exact o2 q (by rw [← e2]; exact e)
   ·rw [e2] at e
    obtain rfl := Option.some.inj e
    show g ≠ g2
    omega
  ·rcases k2.o with e2 | ⟨g2, e2, hl⟩
   ·exact o3 q (by rw [← e2]; exact e)
   ·rw [e2] at e
    obtain rfl := Option.some.inj e
    show g ≠ g2
    omega
theorem GS.more (h : GS N P m L T D os cs w so sc oo oc ops) (d : ShpD) (hd : d.k.ok .u8 w) (hdo : offRow P so oo d.k) (hdg : ∀ g, os = some ⟨g, 0, none⟩ → offB g d.k) {g' c' : Nat} (hown : w'.ownsRow N 43 2 (.slice (some ⟨g', 0, none⟩) (D.length + 1) c') (D.length + 1) (D.flatMap ShpD.cells ++ d.cells)) (hgr : w.grownBy w' (Value.slice os D.length cs).ownBlock) (hat : (Value.slice os D.length cs).ownBlock = some g' ∨ g' = w.heap.size) (hlt : g' < w'.heap.size)
  (hnew : offB w.heap.size L ∧ (∀ b ∈ ops, offB w.heap.size b.ks) ∧ (∀ d ∈ D, offB w.heap.size d.k) ∧ offB w.heap.size d.k ∧ (∀ q : Addr, so = some q → w.heap.size ≠ q.block) ∧ ∀ q : Addr, oo = some q → w.heap.size ≠ q.block) : GS N P m L T (D ++ [d]) (some ⟨g', 0, none⟩) c' w' so sc oo oc ops := by
 have hrow : w'.ownsRow N 43 2 (.slice (some ⟨g', 0, none⟩) (D ++ [d]).length c') (D ++ [d]).length ((D ++ [d]).flatMap ShpD.cells) := by
  rw [List.length_append, List.flatMap_append]
  simpa using hown
 have hmem : ∀ x ∈ D ++ [d], x ∈ D ∨ x = d := fun x hx => by simpa using hx
 have hsz := hgr.size
 have fin : ∀ {G : Nat}, G < w'.heap.size → G ≠ P → (∀ q : Addr, so = some q → G ≠ q.block) → (∀ q : Addr, oo = some q → G ≠ q.block) → offB G L → (∀ b ∈ ops, offB G b.ks) → (∀ x ∈ D, offB G x.k) → offB G d.k → G < w'.heap.size ∧ G ≠ P ∧ (∀ q : Addr, so = some q → G ≠ q.block) ∧ (∀ q : Addr, oo = some q → G ≠ q.block) ∧ offB G L ∧ (∀ b ∈ ops, offB G b.ks) ∧ ∀ x ∈ D ++ [d], offB G x.k := fun a b c e f g i j => ⟨a, b, c, e, f, g, fun x hx => by
  rcases hmem x hx with q | rfl
  ·exact i x q
  ·exact j⟩
 have hP := h.tk.lt
 cases hos : (Value.slice os D.length cs).ownBlock with
 | none =>
  rw [hos] at hgr hat
  have hb : Below w.heap.size w w' := (Below.refl _ _).grown hgr (Nat.le_refl _) (fun i hi => by cases hi)
  obtain rfl : g' = w.heap.size := by
   rcases hat with e | e
   ·cases e
   ·exact e
  exact ⟨h.tk.below hb, h.val, h.few, h.lok.below hb, h.lof, hrow, fun x hx => by
   rcases hmem x hx with q | rfl
   ·exact ⟨(h.shp x q).1.below hb, (h.shp x q).2⟩
   ·exact ⟨hd.below hb, hdo⟩, fun g hg => by
   simp only [Option.some.injEq, Addr.mk.injEq, and_true] at hg
   subst hg
   exact fin hlt (by omega) hnew.2.2.2.2.1 hnew.2.2.2.2.2 hnew.1 hnew.2.1 hnew.2.2.1 hnew.2.2.2.1⟩
 | some g =>
  rw [hos] at hgr hat
  have ho : os = some ⟨g, 0, none⟩ := (own_block h.row g hos).1
  obtain ⟨o0, o1, o2, o3, o4, o5, o6⟩ := h.off g ho
  have hc : Chg g w w' := ⟨hgr.os, hgr.tape, hgr.output, hgr.size, fun k hk hkg => hgr.block k hk (by simp only [ne_eq, Option.some.injEq]; exact fun e => hkg e)⟩
  refine ⟨h.tk.off hc o1 o2 o3 o5, h.val, h.few, h.lok.off hc o4, h.lof, hrow, fun x hx => ?_, fun g2 hg2 => ?_⟩
  ·rcases hmem x hx with q | rfl
   ·exact ⟨(h.shp x q).1.off hc (o6 x q), (h.shp x q).2⟩
   ·exact ⟨hd.off hc (hdg g ho), hdo⟩
  ·simp only [Option.some.injEq, Addr.mk.injEq, and_true] at hg2
   subst hg2
   rcases hat with e | e
   ·obtain rfl := Option.some.inj e
    exact fin hlt o1 o2 o3 o4 o5 o6 (hdg g ho)
   ·subst e
    exact fin hlt (by omega) hnew.2.2.2.2.1 hnew.2.2.2.2.2 hnew.1 hnew.2.1 hnew.2.2.1 hnew.2.2.2.1
end
end Go.Proofs.YtlfihndbnaaodaaGreatDoor
namespace Go.Proofs.YtlfihndbnaaodaaGreatDoor
open Go.RowKit
set_option linter.unusedVariables false
theorem gs_step (m : ModD) (P : Nat) (L : NumD) (T : TrkV) (B : List InsD) (R : Int × Int) (i : Nat) (w0 w : World) (D : List ShpD) (os : Option Addr) (cs : Nat) (so : Option Addr) (sc : Nat) (oo : Option Addr) (oc : Nat) (ops : List BlkD) (h : GS w0.heap.size P m L T D os cs w so sc oo oc ops) (hu : T.u8) (hku : KindsU8 m L.xs) (hr : RunI m L.xs B R i T) (hi : i < B.length) (hB : B.length ≤ 200) (hd : (B[i]).ok w0) (hb0 : Below w0.heap.size w0 w) (hm : m.ok w0) (hc0 : mChk m = 0) (hc2 : typD m = 0) (hTab : TabIn w0) (hg : 1 < w0.heap.size) :
  Calls Tryz.prog 27 #[.pointer (some ⟨P, 0, none⟩), .agg #[.int .u8 (B[i]).op, .int .i64 (B[i]).A, .int .i64 (B[i]).B, .slice (B[i]).o (B[i]).n (B[i]).cap]] w fun r w' => ∃ (E : Int) (T' : TrkV), r = .returned (.int .i64 E) ∧ Below w0.heap.size w w' ∧ (E = 0 → (∃ so' sc' oo' oc' ops', GS w0.heap.size P m L T' D os cs w' so' sc' oo' oc' ops') ∧ RunI m L.xs B R (i + 1) T' ∧ T'.u8 ∧ T' = (nextV m L.xs T B[i]).2) ∧ (E ≠ 0 → R = ((i : Int), E)) := by
 obtain ⟨st, vops, bad⟩ := T
 have hGS := h
 obtain ⟨h1, h2, h3, h4, h5, _, _, _⟩ := h
 obtain ⟨hck, pre, b, hops, hpl⟩ := hr.here hi
 dsimp only at h1 h2 hops
 subst hops
 obtain ⟨ops0, l2, rfl, e1, e2⟩ := List.map_eq_append_iff.1 h2
 obtain ⟨bl, t, rfl, e3, e4⟩ := List.map_eq_cons_iff.1 e2
 obtain rfl := List.map_eq_nil_iff.1 e4
 subst e1
 subst e3
 obtain ⟨g, rfl⟩ : ∃ g, oo = some ⟨g, 0, none⟩ := by
  rcases h1.opn.2 with ⟨_, hz⟩ | ⟨g, c, cur, hv, _⟩
  ·simp at hz
  ·simp only [Value.slice.injEq] at hv
   exact ⟨g, hv.1⟩
 have sm := mod_small hm hc0
 have sr : ∀ d ∈ m.types, d.r.xs.length ≤ 10 := fun d hd => by
  have := (hm.types.all d hd).2.len
  have := (sm.1 d hd).2
  omega
 have sy := chk_says hd hck
 have hl : st.length ≤ 20 * i := hr.ok.len
 have hmo := hd.most
 unfold maxLen at hmo
 refine (vstep (B[i]).op w0.heap.size P m L so sc g oc st ops0 bl bad (B[i]).A (B[i]).B (B[i]).o (B[i]).n (B[i]).cap (B[i]).xs w h1 (by omega) (hr.ok.bases bl.val (by simp)) h3 (by rw [List.length_map] at hpl; omega) w0 (Nat.le_refl _) hb0 hm hc0 hc2 h4 h5 (fun x hx => u8_of_wf (h4.wf x hx)) (hTab.of_cells fun j => hb0.cell (p := ⟨1, j, none⟩) hg) hg sy.1 sy.2.1 hd.lj.1 hd.cap (by omega) hd.lj.one hd.op0 hd.op1 sy.2.2).mono ?_
 rintro r w' ⟨rfl, hbw, hz⟩
 refine ⟨_, (stepV m L.xs st (ops0.map BlkD.val) bl.val bad (B[i]).op (B[i]).A (B[i]).xs).2, rfl, hbw, fun hE => ⟨?_, hr.next sr hi hE, ?_, ?_⟩, fun hE => hr.stop hi hE⟩
 ·obtain ⟨so', sc', oo', oc', ops', k1, k2, k3, k4, k5⟩ := hz hE
  exact ⟨so', sc', oo', oc', ops', hGS.step k1 k2 k3 k4 k5⟩
 ·have hbad : bad = false := hr.bad
  subst hbad
  exact step_u8 hku hu (fun ho => ⟨sy.1 (by omega), sy.2.2 ho⟩) hE
 ·rw [nextV_eq]
theorem NumD.ok.fresh {w : World} {d : NumD} (h : d.ok .u8 w) : offB w.heap.size d := by
 rcases h.at' with h0 | ⟨a, h1, h2, _⟩
 ·exact Or.inl h0
 ·exact Or.inr ⟨a, h1, by omega⟩
theorem GS.fresh {N P : Nat} {m : ModD} {L : NumD} {T : TrkV} {D : List ShpD} {os : Option Addr} {cs : Nat} {w : World} {so : Option Addr} {sc : Nat} {oo : Option Addr} {oc : Nat} {ops : List BlkD} (h : GS N P m L T D os cs w so sc oo oc ops) {c : NumD} (hc : c.ok .u8 w) : offB w.heap.size L ∧ (∀ b ∈ ops, offB w.heap.size b.ks) ∧ (∀ d ∈ D, offB w.heap.size d.k) ∧ offB w.heap.size c ∧ (∀ q : Addr, so = some q → w.heap.size ≠ q.block) ∧ ∀ q : Addr, oo = some q → w.heap.size ≠ q.block :=
 ⟨h.lok.fresh, fun b hb => (h.tk.kin b hb).1.fresh, fun d hd => (h.shp d hd).1.fresh, hc.fresh, fun q e => by have := (h.tk.rows.1 q e).2; omega, fun q e => by have := (h.tk.rows.2 q e).2; omega⟩
theorem gs_shape {N P : Nat} {m : ModD} {L : NumD} {T : TrkV} {D : List ShpD} {os : Option Addr} {cs : Nat} {w : World} {so : Option Addr} {sc : Nat} {oo : Option Addr} {oc : Nat} {ops : List BlkD} (h : GS N P m L T D os cs w so sc oo oc ops) (hu : T.u8) (hst : T.st.length ≤ 1099511610000) :
  Calls Tryz.prog 26 #[.pointer (some ⟨P, 0, none⟩)] w fun r w' => ∃ c : NumD, r = .returned (.agg #[.bool (shpV T).1, .slice c.o c.n c.cap]) ∧ c.xs = (shpV T).2 ∧ GS N P m L T D os cs w' so sc oo oc ops ∧ c.ok .u8 w' ∧ offRow P so oo c ∧ (∀ g, os = some ⟨g, 0, none⟩ → offB g c) ∧ Below w.heap.size w w' := by
 have hv := vshape N P (trkM m L) so sc oo oc T.st ops T.bad w h.tk hst (fun x hx => wf_u8 (hu.st x hx).1 (hu.st x hx).2)
 rw [h.val] at hv
 refine hv.mono ?_
 rintro r w' ⟨c, rfl, ⟨n1, n2, n3⟩, b⟩
 refine ⟨c, rfl, n1, h.below b, n2, ?_, fun g hg => ?_, b⟩
 ·rcases n3 with n3 | ⟨a, e, hl⟩
  ·exact Or.inl n3
  ·refine Or.inr ⟨a, e, by have := h.tk.lt; omega, fun q hq => ?_, fun q hq => ?_⟩
   ·have := (h.tk.rows.1 q hq).2; omega
   ·have := (h.tk.rows.2 q hq).2; omega
 ·rcases n3 with n3 | ⟨a, e, hl⟩
  ·exact Or.inl n3
  ·exact Or.inr ⟨a, e, by have := (h.off g hg).1; omega⟩
end Go.Proofs.YtlfihndbnaaodaaGreatDoor
namespace Go.Proofs.YtlfihndbnaaodaaGreatDoor
open Go.RowKit
set_option linter.unusedVariables false
theorem own_base2 {w : World} {B : Nat} {t : TypeId} {k : Nat} {v : Value} {n : Nat} {xs : List Value} (h : w.ownsRow B t k v n xs) {i : Nat} (e : v.ownBlock = some i) : B ≤ i := by
 rcases h.2 with ⟨h1, _⟩ | ⟨g, c, cur, h1, hb, _⟩
 ·rw [h1] at e; cases e
 ·rw [h1] at e; cases e; exact hb
def shapesV (m : ModD) (k : Nat) : List (Bool × List Int) := (List.range (m.funcs[k]!).b.length).map fun i => shpV (stV m ((m.types[(m.funcs[k]!).t.toNat]!).i.xs ++ (m.funcs[k]!).l.xs) ((m.funcs[k]!).b.take i) ⟨[], [⟨2, (m.types[(m.funcs[k]!).t.toNat]!).r.xs, 0, false⟩], false⟩)
theorem infoShp9 : (Tryz.prog.info? 43).map (fun i => (i.zero, i.size, i.bytes)) = some (some (.agg #[.bool false, .slice none 0 0]), 2, 32) := by kernel_rfl
def ShpD.val (d : ShpD) : Bool × List Int := (d.dead, d.k.xs)
def ShpOut (w : World) (R : Int × Int) (S : List (Bool × List Int)) (r : Ending) (w' : World) : Prop :=
 Below w.heap.size w w' ∧ (R.2 = 0 → ∃ (os : Option Addr) (cs : Nat) (D : List ShpD), r = .returned (.tuple #[.slice os D.length cs, .int .i64 0]) ∧ D.map ShpD.val = S ∧ w'.ownsRow w.heap.size 43 2 (.slice os D.length cs) D.length (D.flatMap ShpD.cells) ∧ ∀ d ∈ D, d.k.ok .u8 w') ∧ (R.2 ≠ 0 → r = .returned (.tuple #[.slice none 0 0, .int .i64 R.2]))
theorem vshapes_ok (m : ModD) (at' : Int) (w : World) (hm : m.ok w) (hc0 : mChk m = 0) (hc2 : typD m = 0) (h0 : 0 ≤ at') (h1 : at' < (m.funcs.length : Int)) (hTab : TabIn w) (hA : Amb w) (hh : hasE m at' = 0) (hg : 1 < w.heap.size) :
  Calls Tryz.prog 12 #[.agg #[.slice m.oT m.types.length m.cT, .slice m.oI m.imports.length m.cI, .slice m.oF m.funcs.length m.cF, .int .i64 m.table, .int .i64 m.pages, .int .i64 m.most, .slice m.oG m.globals.length m.cG, .slice m.oE m.exports.length m.cE, .int .i64 m.start, .slice m.oL m.elems.length m.cL, .slice m.oD m.data.length m.cD], .int .i64 at'] w (ShpOut w (firstV m at'.toNat) (shapesV m at'.toNat)) := by
 have hi : at'.toNat < m.funcs.length := by omega
 have hcm := hm.funcs.most
 have hcl := hm.funcs.le
 unfold maxLen at hcm
 obtain ⟨bb, ff, ho, hbN, hc⟩ := hm.funcs.cellAt (fun e => by rw [e] at hi; exact absurd hi (by simp))
 have hfo := hm.funcs.all _ (List.getElem_mem hi)
 have sm := mod_small hm hc0
 have hfs := sm.2 _ (List.getElem_mem hi)
 have hft := typ_fun hc2 _ (List.getElem_mem hi)
 unfold firstV shapesV
 rw [← getElem!_pos m.funcs _ hi] at hfo hfs hft
 have hb1 : Below w.heap.size w (w.alloc (.cells #[.slice m.oT m.types.length m.cT, .slice m.oI m.imports.length m.cI, .slice m.oF m.funcs.length m.cF, .int .i64 m.table, .int .i64 m.pages, .int .i64 m.most, .slice m.oG m.globals.length m.cG, .slice m.oE m.exports.length m.cE, .int .i64 m.start, .slice m.oL m.elems.length m.cL, .slice m.oD m.data.length m.cD] 30)) := (Below.refl _ _).alloc (Nat.le_refl _) _
 have hcc := hc _ hb1 _ hi
 generalize m.funcs[at'.toNat]! = d at *
 obtain ⟨ft, ⟨lo, ln, lc, lx⟩, bo, bc, body⟩ := d
 dsimp only at hfs hft hcc ⊢
 obtain ⟨hnc, hln, hf0⟩ := hfs
 obtain ⟨_, hlo, hLD, hbl, hbc⟩ := hfo
 dsimp only at hlo hLD hbl hbc
 unfold maxLen at hbc
 have hi2 : ft.toNat < m.types.length := by omega
 have hr10 : (m.types[ft.toNat]!).r.xs.length ≤ 10 := bang_len (fun d hd => by
  have := (hm.types.all d hd).2.len
  have := (sm.1 d hd).2
  omega) _
 have hBl := RunI.len hnc
 obtain ⟨R, hR⟩ : ∃ R, R = runV m ((m.types[ft.toNat]!).i.xs ++ lx) body 0 ⟨[], [⟨2, (m.types[ft.toNat]!).r.xs, 0, false⟩], false⟩ := ⟨_, rfl⟩
 have HR0 : Hid (RunI m ((m.types[ft.toNat]!).i.xs ++ lx) body R 0 ⟨[], [⟨2, (m.types[ft.toNat]!).r.xs, 0, false⟩], false⟩) := by rw [hR]; exact RunI.first hnc hr10
 rw [← hR]
 have e0 : (w.alloc (.cells #[.slice m.oT m.types.length m.cT, .slice m.oI m.imports.length m.cI, .slice m.oF m.funcs.length m.cF, .int .i64 m.table, .int .i64 m.pages, .int .i64 m.most, .slice m.oG m.globals.length m.cG, .slice m.oE m.exports.length m.cE, .int .i64 m.start, .slice m.oL m.elems.length m.cL, .slice m.oD m.data.length m.cD] 30)).cell? ⟨bb, ff + at'.toNat * 3, none⟩ = some (.int .i64 ft) := hcc 0 (by omega)
 have e1 : (w.alloc (.cells #[.slice m.oT m.types.length m.cT, .slice m.oI m.imports.length m.cI, .slice m.oF m.funcs.length m.cF, .int .i64 m.table, .int .i64 m.pages, .int .i64 m.most, .slice m.oG m.globals.length m.cG, .slice m.oE m.exports.length m.cE, .int .i64 m.start, .slice m.oL m.elems.length m.cL, .slice m.oD m.data.length m.cD] 30)).cell? ⟨bb, ff + at'.toNat * 3 + 1, none⟩ = some (.slice lo ln lc) := hcc 1 (by omega)
 have e2 : (w.alloc (.cells #[.slice m.oT m.types.length m.cT, .slice m.oI m.imports.length m.cI, .slice m.oF m.funcs.length m.cF, .int .i64 m.table, .int .i64 m.pages, .int .i64 m.most, .slice m.oG m.globals.length m.cG, .slice m.oE m.exports.length m.cE, .int .i64 m.start, .slice m.oL m.elems.length m.cL, .slice m.oD m.data.length m.cD] 30)).cell? ⟨bb, ff + at'.toNat * 3 + 2, none⟩ = some (.slice bo body.length bc) := hcc 2 (by omega)
 obtain ⟨T0, hT0⟩ : ∃ T0 : TrkV, T0 = ⟨[], [⟨2, (m.types[ft.toNat]!).r.xs, 0, false⟩], false⟩ := ⟨_, rfl⟩
 obtain ⟨loc, hloc⟩ : ∃ loc, loc = (m.types[ft.toNat]!).i.xs ++ lx := ⟨_, rfl⟩
 have hku : KindsU8 m loc := ⟨fun d hd x hx => u8_of_wf ((hm.types.all d hd).2.wf x hx), fun d hd => ⟨(hm.globals.all d hd).1, (hm.globals.all d hd).2.1⟩, fun x hx => by
  rw [hloc] at hx
  rcases List.mem_append.1 hx with q | q
  ·have hmt : m.types[ft.toNat]! ∈ m.types := by rw [getElem!_pos m.types _ hi2]; exact List.getElem_mem hi2
   exact u8_of_wf ((hm.types.all _ hmt).1.wf x q)
  ·exact u8_of_wf (hlo.wf x q)⟩
 have hu0 : T0.u8 := by
  rw [hT0]
  refine ⟨U8.nil, fun b hb => ?_⟩
  obtain rfl : b = ⟨2, (m.types[ft.toNat]!).r.xs, 0, false⟩ := by simpa using hb
  exact bang_u8 hku.ty _
 have HU0 : Hid (T0.u8) := hu0
 rw [← hT0, ← hloc] at HR0
 rw [← hT0, ← hloc]
 have HBG : Hid (∀ W, Below w.heap.size w W → Calls Tryz.prog 25 #[.agg #[.slice m.oT m.types.length m.cT, .slice m.oI m.imports.length m.cI, .slice m.oF m.funcs.length m.cF, .int .i64 m.table, .int .i64 m.pages, .int .i64 m.most, .slice m.oG m.globals.length m.cG, .slice m.oE m.exports.length m.cE, .int .i64 m.start, .slice m.oL m.elems.length m.cL, .slice m.oD m.data.length m.cD], .agg #[.int .i64 ft, .slice lo ln lc, .slice bo body.length bc]] W fun r w' => ∃ (P : Nat) (L : NumD) (g : Nat) (bl : BlkD), r = .returned (.pointer (some ⟨P, 0, none⟩)) ∧ GS w.heap.size P m L T0 [] none 0 w' none 0 (some ⟨g, 0, none⟩) 1 [bl] ∧ L.xs = loc ∧ Below W.heap.size W w') := fun W b => by
  refine (vbegin m ft ⟨lo, ln, lc, lx⟩ bo body.length bc W (hm.below b) hf0 hft (hlo.below b) hln (fun d hd => by have := sm.1 d hd; omega)).mono ?_
  rintro r w' ⟨P, L, g, bl, rfl, k1, k2, k3, k4, k5, k6, k7⟩
  refine ⟨P, L, g, bl, rfl, ⟨by rw [hT0]; exact k1.low b.size, ?_, fun x hx => ?_, k2, k3, World.ownsRow_nil _ _ _ _, fun d hd => by (cases hd), fun q e => by (cases e)⟩, ?_, k7⟩
  ·rw [hT0]
   simp [k5]
  ·obtain rfl : x = bl := by simpa using hx
   exact k6
  ·rw [hloc]
   exact k4
 have HST : Hid (∀ P L T D os cs so sc oo oc ops i W, GS w.heap.size P m L T D os cs W so sc oo oc ops → L.xs = loc → T.u8 → RunI m loc body R i T → ∀ hi : i < body.length, Below w.heap.size w W → Calls Tryz.prog 27 #[.pointer (some ⟨P, 0, none⟩), .agg #[.int .u8 (body[i]).op, .int .i64 (body[i]).A, .int .i64 (body[i]).B, .slice (body[i]).o (body[i]).n (body[i]).cap]] W fun r w' => ∃ (E : Int) (T' : TrkV), r = .returned (.int .i64 E) ∧ Below w.heap.size W w' ∧ (E = 0 → (∃ so' sc' oo' oc' ops', GS w.heap.size P m L T' D os cs w' so' sc' oo' oc' ops') ∧ RunI m loc body R (i + 1) T' ∧ T'.u8 ∧ T' = (nextV m loc T body[i]).2) ∧ (E ≠ 0 → R = ((i : Int), E))) := fun P L T D os cs so sc oo oc ops i W hG hx hu hr hi b => by
  have h := gs_step m P L T body R i w W D os cs so sc oo oc ops hG hu (by rw [hx]; exact hku) (by rw [hx]; exact hr) hi hBl (hLD.1 _ (List.getElem_mem hi)) b hm hc0 hc2 hTab hg
  rw [hx] at h
  exact h
 have HLD : Hid (LD w bo body) := hLD
 have q1 := new_block w (.cells #[.slice m.oT m.types.length m.cT, .slice m.oI m.imports.length m.cI, .slice m.oF m.funcs.length m.cF, .int .i64 m.table, .int .i64 m.pages, .int .i64 m.most, .slice m.oG m.globals.length m.cG, .slice m.oE m.exports.length m.cE, .int .i64 m.start, .slice m.oL m.elems.length m.cL, .slice m.oD m.data.length m.cD] 30)
 have z1 : (w.alloc (.cells #[.slice m.oT m.types.length m.cT, .slice m.oI m.imports.length m.cI, .slice m.oF m.funcs.length m.cF, .int .i64 m.table, .int .i64 m.pages, .int .i64 m.most, .slice m.oG m.globals.length m.cG, .slice m.oE m.exports.length m.cE, .int .i64 m.start, .slice m.oL m.elems.length m.cL, .slice m.oD m.data.length m.cD] 30)).heap.size = w.heap.size + 1 := by simp
 have HS : Hid (∀ w', Below (w.alloc (.cells #[.slice m.oT m.types.length m.cT, .slice m.oI m.imports.length m.cI, .slice m.oF m.funcs.length m.cF, .int .i64 m.table, .int .i64 m.pages, .int .i64 m.most, .slice m.oG m.globals.length m.cG, .slice m.oE m.exports.length m.cE, .int .i64 m.start, .slice m.oL m.elems.length m.cL, .slice m.oD m.data.length m.cD] 30)).heap.size (w.alloc (.cells #[.slice m.oT m.types.length m.cT, .slice m.oI m.imports.length m.cI, .slice m.oF m.funcs.length m.cF, .int .i64 m.table, .int .i64 m.pages, .int .i64 m.most, .slice m.oG m.globals.length m.cG, .slice m.oE m.exports.length m.cE, .int .i64 m.start, .slice m.oL m.elems.length m.cL, .slice m.oD m.data.length m.cD] 30)) w' → w'.cell? ⟨w.heap.size, 0, none⟩ = some (.slice m.oT m.types.length m.cT) ∧ w'.cell? ⟨w.heap.size, 1, none⟩ = some (.slice m.oI m.imports.length m.cI) ∧ w'.cell? ⟨w.heap.size, 2, none⟩ = some (.slice m.oF m.funcs.length m.cF) ∧ w'.cell? ⟨w.heap.size, 3, none⟩ = some (.int .i64 m.table) ∧ w'.cell? ⟨w.heap.size, 4, none⟩ = some (.int .i64 m.pages) ∧ w'.cell? ⟨w.heap.size, 5, none⟩ = some (.int .i64 m.most) ∧ w'.cell? ⟨w.heap.size, 6, none⟩ = some (.slice m.oG m.globals.length m.cG) ∧ w'.cell? ⟨w.heap.size, 7, none⟩ = some (.slice m.oE m.exports.length m.cE) ∧ w'.cell? ⟨w.heap.size, 8, none⟩ = some (.int .i64 m.start) ∧ w'.cell? ⟨w.heap.size, 9, none⟩ = some (.slice m.oL m.elems.length m.cL) ∧ w'.cell? ⟨w.heap.size, 10, none⟩ = some (.slice m.oD m.data.length m.cD) ∧ w'.cell? ⟨bb, ff + at'.toNat * 3, none⟩ = some (.int .i64 ft) ∧ w'.cell? ⟨bb, ff + at'.toNat * 3 + 1, none⟩ = some (.slice lo ln lc) ∧ w'.cell? ⟨bb, ff + at'.toNat * 3 + 2, none⟩ = some (.slice bo body.length bc)) := fun w' bz => by
  have a1 := (bz.block w.heap.size (by rw [z1]; omega)).trans q1
  have cl (k : Nat) := bz.cell (p := ⟨bb, ff + at'.toNat * 3 + k, none⟩) (by show bb < _; rw [z1]; omega)
  exact ⟨cell_at a1 0 rfl, cell_at a1 1 rfl, cell_at a1 2 rfl, cell_at a1 3 rfl, cell_at a1 4 rfl, cell_at a1 5 rfl, cell_at a1 6 rfl, cell_at a1 7 rfl, cell_at a1 8 rfl, cell_at a1 9 rfl, cell_at a1 10 rfl, (cl 0).trans e0, (cl 1).trans e1, (cl 2).trans e2⟩
 obtain ⟨v, hv⟩ : ∃ v, v = (w.alloc (.cells #[.slice m.oT m.types.length m.cT, .slice m.oI m.imports.length m.cI, .slice m.oF m.funcs.length m.cF, .int .i64 m.table, .int .i64 m.pages, .int .i64 m.most, .slice m.oG m.globals.length m.cG, .slice m.oE m.exports.length m.cE, .int .i64 m.start, .slice m.oL m.elems.length m.cL, .slice m.oD m.data.length m.cD] 30)) := ⟨_, rfl⟩
 have HV : Hid (v = (w.alloc (.cells #[.slice m.oT m.types.length m.cT, .slice m.oI m.imports.length m.cI, .slice m.oF m.funcs.length m.cF, .int .i64 m.table, .int .i64 m.pages, .int .i64 m.most, .slice m.oG m.globals.length m.cG, .slice m.oE m.exports.length m.cE, .int .i64 m.start, .slice m.oL m.elems.length m.cL, .slice m.oD m.data.length m.cD] 30))) := hv
 have hvs : v.heap.size = w.heap.size + 1 := by rw [hv]; exact z1
 have HVS : Hid (v.heap.size = w.heap.size + 1 ∧ w.heap.size ≤ v.heap.size) := ⟨hvs, by omega⟩
 have HB1 : Hid (Below w.heap.size w v) := by rw [hv]; exact hb1
 rw [← hv] at HS
 have HSv := HS.out v (Below.refl _ _)
 rw [hv] at HSv
 obtain ⟨f0, f1, f2, f3, f4, f5, f6, f7, f8, f9, f10, g0, g1, g2⟩ := HSv
 obtain ⟨n, hn⟩ : ∃ n, body.length = n := ⟨_, rfl⟩
 rw [hn] at g2 HS HBG hbl hBl
 have HLn : Hid (body.length = n) := hn
 have hni : (n : Int) ≤ 200 := by omega
 clear hn
 have HHF : Hid (∀ W, Below w.heap.size w W → Calls Tryz.prog 20 #[.agg #[.slice m.oT m.types.length m.cT, .slice m.oI m.imports.length m.cI, .slice m.oF m.funcs.length m.cF, .int .i64 m.table, .int .i64 m.pages, .int .i64 m.most, .slice m.oG m.globals.length m.cG, .slice m.oE m.exports.length m.cE, .int .i64 m.start, .slice m.oL m.elems.length m.cL, .slice m.oD m.data.length m.cD], .int .i64 at'] W fun r w' => r = .returned (.int .i64 0) ∧ Below W.heap.size W w') := fun W b => by
  have h := vhas m at' W (hA.to (b.mono (by have := hA.2.2; omega))) (hm.below b)
  rw [hh] at h
  exact h
 have HR0' : Hid (type_of% HR0.out) := HR0.out
 clear hc hcc hlo hLD hnc hln hf0 hft hi2 hr10 hR HR0 e0 e1 e2 q1 z1 hv hm hc0 hc2 hTab sm hvs hb1 hT0 hloc hku hu0 hA hh
 rw [ho] at f0 f1 f2 f3 f4 f5 f6 f7 f8 f9 f10 g0 g1 g2 HS HV HBG HHF
 rw [ho]
 clear ho
 go_enter Tryz.func12, Tryz.ntmps12
 go_wp2_with fail
 rw [← HV.out]
 refine (HHF.out _ HB1.out).mono ?_
 rintro r wh ⟨rfl, bh⟩
 have HH1 : Hid (Below v.heap.size v wh) := bh
 clear bh HHF f0 f1 f2 f3 f4 f5 f6 f7 f8 f9 f10 g0 g1 g2
 obtain ⟨f0, f1, f2, f3, f4, f5, f6, f7, f8, f9, f10, g0, g1, g2⟩ := HS.out _ HH1.out
 have hsh : v.heap.size ≤ wh.heap.size := HH1.out.size
 go_wp2_with fail
 go_region_held3 (fun w' => w'.cell? ⟨w.heap.size, 0, none⟩ = some (.slice m.oT m.types.length m.cT) ∧ w'.cell? ⟨w.heap.size, 1, none⟩ = some (.slice m.oI m.imports.length m.cI) ∧ w'.cell? ⟨w.heap.size, 2, none⟩ = some (.slice (some ⟨bb, ff, none⟩) m.funcs.length m.cF) ∧ w'.cell? ⟨w.heap.size, 3, none⟩ = some (.int .i64 m.table) ∧ w'.cell? ⟨w.heap.size, 4, none⟩ = some (.int .i64 m.pages) ∧ w'.cell? ⟨w.heap.size, 5, none⟩ = some (.int .i64 m.most) ∧ w'.cell? ⟨w.heap.size, 6, none⟩ = some (.slice m.oG m.globals.length m.cG) ∧ w'.cell? ⟨w.heap.size, 7, none⟩ = some (.slice m.oE m.exports.length m.cE) ∧ w'.cell? ⟨w.heap.size, 8, none⟩ = some (.int .i64 m.start) ∧ w'.cell? ⟨w.heap.size, 9, none⟩ = some (.slice m.oL m.elems.length m.cL) ∧ w'.cell? ⟨w.heap.size, 10, none⟩ = some (.slice m.oD m.data.length m.cD) ∧ w'.cell? ⟨bb, ff + at'.toNat * 3, none⟩ = some (.int .i64 ft) ∧ w'.cell? ⟨bb, ff + at'.toNat * 3 + 1, none⟩ = some (.slice lo ln lc) ∧ w'.cell? ⟨bb, ff + at'.toNat * 3 + 2, none⟩ = some (.slice bo n bc))
  (first | exact HS.out _ bch | go_keep)
  ((go_at_call 25; (fail_if_success (have := HT1)); refine (HBG.out _ (HB1.out.trans ((bch : Below v.heap.size v _).mono HVS.out.2))).mono ?_; rintro r w1 ⟨P, L, gb, bl, rfl, hgo, hlx, b1⟩; have HT1 : Hid True := trivial; have HA1 : Hid (Below v.heap.size v w1) := (by (refine Below.trans ?_ (b1.mono ?_) <;> first | exact bch | exact bcl)); have hs1 : v.heap.size ≤ w1.heap.size := HA1.out.size; have HGO : Hid (type_of% hgo) := hgo; have HLX : Hid (L.xs = loc) := hlx; clear b1 hgo hlx))
 obtain ⟨_, _, c2, _, _, _, _, _, _, _, _, _, _, c13⟩ := HS.out _ HA1.out
 have HB2 : Hid (Below w.heap.size w w1) := HB1.out.trans (HA1.out.mono HVS.out.2)
 clear HBG HS HA1 HB1 HV HVS hs1 f0 f1 f2 f3 f4 f5 f6 f7 f8 f9 f10 g0 g1 g2
 go_wp2_with fail
 have HIO : Hid (∀ k, k ≤ n → stV m loc (body.take k) T0 = stV m loc (body.take k) T0) := fun _ _ => rfl
 obtain ⟨i0, hi9, hz0, hz1, hz2⟩ := info_parts infoShp9
 go_loopw [8, 32] (fun sv i wr => ∃ (k : Nat) (D : List ShpD) (os : Option Addr) (cs : Nat) (so : Option Addr) (sc : Nat) (oo : Option Addr) (oc : Nat) (ops : List BlkD), i = .int .i64 k ∧ sv = .slice os D.length cs ∧ k ≤ n ∧ Hid (GS w.heap.size P m L (stV m loc (body.take k) T0) D os cs wr so sc oo oc ops) ∧ Hid (RunI m loc body R k (stV m loc (body.take k) T0)) ∧ Hid ((stV m loc (body.take k) T0).u8) ∧ Hid (D.map ShpD.val = (List.range k).map fun i => shpV (stV m loc (body.take i) T0)) ∧ Hid (Below w.heap.size w wr)) (fun _ i _ => n - (intOf i).toNat)
 case atStart => exact ⟨0, [], none, 0, none, 0, some ⟨gb, 0, none⟩, 1, [bl], rfl, rfl, by omega, HGO, HR0', HU0, rfl, HB2⟩
 case round =>
  obtain ⟨k, D, os, cs, so, sc, oo, oc, ops, rfl, rfl, hk, HG, HR, HU, HDV, HB⟩ := hrel
  clear HGO HR0' HU0 HB2 HIO
  have hw : w.heap.size < wr.heap.size := by have := HG.out.tk.np; have := HG.out.tk.lt; omega
  by_cases hlt : k < n
  ·have hkl : k < body.length := by rw [HLn.out]; exact hlt
   rcases HLD.out.2 with h0 | ⟨b, f, rfl, hbw, hcs⟩
   ·exfalso; rw [h0] at hkl; simp at hkl
   obtain ⟨m0, m1, m2, m3⟩ := hcs k hkl
   have e0 := HB.out.cell (p := ⟨b, f + k * 4, none⟩) hbw
   have e1 := HB.out.cell (p := ⟨b, f + k * 4 + 1, none⟩) hbw
   have e2 := HB.out.cell (p := ⟨b, f + k * 4 + 2, none⟩) hbw
   have e3 := HB.out.cell (p := ⟨b, f + k * 4 + 3, none⟩) hbw
   rw [m0] at e0
   rw [m1] at e1
   rw [m2] at e2
   rw [m3] at e3
   have HTS : Hid (stV m loc (body.take (k + 1)) T0 = (nextV m loc (stV m loc (body.take k) T0) body[k]).2) := by
    unfold Hid
    rw [List.take_succ_eq_append_getElem hkl, stV_snoc]
   have HKL : Hid (k < body.length) := hkl
   clear hcs m0 m1 m2 m3
   have hki0 : (0 : Int) ≤ (k : Int) := by omega
   have hki1 : (k : Int) < (n : Int) := by omega
   have hul : (stV m loc (body.take k) T0).st.length ≤ 1099511610000 := by have := HR.out.ok.len; omega
   have HSH : Hid (type_of% (gs_shape (HG.out.below ((Below.refl _ _).alloc (Nat.le_refl _) (.cells #[.int .u8 body[k].op, .int .i64 body[k].A, .int .i64 body[k].B, .slice body[k].o body[k].n body[k].cap] 53))) HU.out hul)) := gs_shape (HG.out.below ((Below.refl _ _).alloc (Nat.le_refl _) (.cells #[.int .u8 body[k].op, .int .i64 body[k].A, .int .i64 body[k].B, .slice body[k].o body[k].n body[k].cap] 53))) HU.out hul
   have hod : ∀ g, os = some ⟨g, 0, none⟩ → g < wr.heap.size := fun g hg => (HG.out.off g hg).1
   have HOD : Hid (type_of% hod) := hod
   have HDL : Hid (D.length = k) := by
    have := congrArg List.length HDV.out
    unfold Hid
    simpa using this
   have hD2 : D.length ≤ 200 := by rw [HDL.out]; omega
   go_wp2_with fail
   refine HSH.out.mono ?_
   rintro r w2 ⟨c, rfl, hcx, hg2, hco, hcf, hcg, b2⟩
   have hq2 := (b2.block wr.heap.size (by simp)).trans (heap_alloc_new wr _)
   have hb2 : Below w.heap.size w w2 := (HB.out.alloc (by omega) _).trans (b2.mono (by simp; omega))
   have HG2 : Hid (type_of% hg2) := hg2
   have HCX : Hid (type_of% hcx) := hcx
   have HCO : Hid (type_of% hco) := hco
   have HCF : Hid (type_of% hcf) := hcf
   have HCG : Hid (type_of% hcg) := hcg
   have HQ2 : Hid (type_of% hq2) := hq2
   have HB2' : Hid (type_of% hb2) := hb2
   have HS2 : Hid (wr.heap.size + 1 ≤ w2.heap.size) := by have := b2.size; simp at this; exact this
   clear hcx hg2 hco hcf hcg b2 hq2 hb2 HSH HG e0 e1 e2 e3 hod hul
   go_wp2_with (at_builtin; refine wpList_append_lies _ rfl _ _ 37 rfl w.heap.size 43 i0 (.agg #[.bool false, .slice none 0 0]) 2 32 Tryz.underlying37 hi9 hz0 hz1 hz2 rfl (by decide) _ D.length (D.flatMap ShpD.cells) rfl (HG2.out.row.alloc _) ⟨_, 0, none⟩ 1 1 [.bool (shpV (stV m loc (body.take k) T0)).1, .slice c.o c.n c.cap] rfl rfl (World.news_of_block (cs := #[.bool (shpV (stV m loc (body.take k) T0)).1, .slice c.o c.n c.cap]) (t := 43) (fr := (0, 0)) (heap_alloc_new _ _)) ?one ?a2 ?a3 ?a4 ?base _ rfl ?_)
   case one => simp [Value.oneCell']
   case a2 => decide
   case a3 => (unfold maxLen; omega)
   case a4 => omega
   case base => (have := HS2.out; simp; omega)
   intro g3 c3 w3 hown hgrow hat hlt3
   have hba : Below w2.heap.size w2 (w2.alloc (.cells #[.bool (shpV (stV m loc (body.take k) T0)).1, .slice c.o c.n c.cap] 43)) := (Below.refl _ _).alloc (Nat.le_refl _) _
   have hg3 := (HG2.out.below hba).more ⟨(shpV (stV m loc (body.take k) T0)).1, c⟩ (HCO.out.below hba) HCF.out HCG.out hown hgrow (by simpa using hat) hlt3 ((HG2.out.below hba).fresh (HCO.out.below hba))
   have hs2 := HS2.out
   have hw3 : Below (wr.heap.size + 1) w2 w3 ∨ ∃ g, os = some ⟨g, 0, none⟩ := by
    cases hos : (Value.slice os D.length cs).ownBlock with
    | none =>
     rw [hos] at hgrow
     exact Or.inl (((Below.refl _ _).alloc (by omega) _).grown hgrow (by simp; omega) (fun i hi => by cases hi))
    | some g => exact Or.inr ⟨g, (own_block HG2.out.row g hos).1⟩
   have hq3 : w3.heap[wr.heap.size]? = some (.cells #[.int .u8 body[k].op, .int .i64 body[k].A, .int .i64 body[k].B, .slice body[k].o body[k].n body[k].cap] 53 (0, 0)) := by
    rw [hgrow.block wr.heap.size (by simp; omega) (fun e => by
     have ho := (own_block HG2.out.row wr.heap.size e.symm).1
     have := HOD.out _ ho
     omega), hba.block _ (by omega)]
    exact HQ2.out
   have hb3 : Below w.heap.size w w3 := by
    have h1 : Below w.heap.size w (w2.alloc (.cells #[.bool (shpV (stV m loc (body.take k) T0)).1, .slice c.o c.n c.cap] 43)) := HB2'.out.alloc (by omega) _
    exact h1.grown hgrow (by simp; omega) (fun i hi => own_base2 HG2.out.row hi)
   have x0 := cell_at hq3 0 rfl
   have x1 := cell_at hq3 1 rfl
   have x2 := cell_at hq3 2 rfl
   have x3 := cell_at hq3 3 rfl
   have HST3 : Hid (type_of% (HST.out P L _ _ _ _ _ _ _ _ _ k w3 hg3 HLX.out HU.out HR.out HKL.out hb3)) := HST.out P L _ _ _ _ _ _ _ _ _ k w3 hg3 HLX.out HU.out HR.out HKL.out hb3
   have HB3 : Hid (type_of% hb3) := hb3
   have HDV3 : Hid ((D ++ [(⟨(shpV (stV m loc (body.take k) T0)).1, c⟩ : ShpD)]).map ShpD.val = (List.range (k + 1)).map fun i => shpV (stV m loc (body.take i) T0)) := by
    unfold Hid
    rw [List.map_append, HDV.out, List.range_succ, List.map_append]
    simp [ShpD.val, HCX.out]
   clear hown hgrow hat hlt3 hba hg3 hs2 hw3 hq3 hb3 HG2 HCX HCO HCF HCG HQ2 HB2' HS2 HR HU HDV HB
   go_wp2_with fail
   refine HST3.out.mono ?_
   rintro r w4 ⟨E, T4, rfl, b4, hz, hnz⟩
   have HB4 : Hid (Below w.heap.size w w4) := HB3.out.trans b4
   clear b4 HST3 x0 x1 x2 x3 HB3
   by_cases hE : E = 0
   ·subst hE
    obtain ⟨⟨so', sc', oo', oc', ops', hg4⟩, hr4, hu4, ht4⟩ := hz rfl
    rw [← HTS.out] at ht4
    subst ht4
    have HG4 : Hid (type_of% hg4) := hg4
    have HR4 : Hid (type_of% hr4) := hr4
    have HU4 : Hid (type_of% hu4) := hu4
    clear hz hnz hg4 hr4 hu4
    go_wp2
    go_roundw
    case rel => exact ⟨k + 1, _, _, _, so', sc', oo', oc', ops', by go_num, by simp, by omega, HG4, HR4, HU4, HDV3, HB4⟩
    case measure => simp [intOf]; omega
   ·have hb0 : (E == 0) = false := by rw [beq_eq_false_iff_ne]; exact hE
    have hn0 : (E != 0) = true := by rw [bne, hb0]; rfl
    have HR3 : Hid (type_of% (hnz hE)) := hnz hE
    have HE : Hid (E ≠ 0) := hE
    clear hz hnz
    go_wp2
    refine bodyPost_ret (results_tmp2 rfl _ _ _) rfl ?_
    refine ⟨HB4.out, fun e => ?_, fun _ => ?_⟩
    ·rw [HR3.out] at e
     exact absurd e HE.out
    ·rw [HR3.out]
     rfl
  ·have HR3 : Hid (R = (0, 0)) := HR.out.last (by rw [HLn.out]; omega)
   have hkn : k = n := by omega
   have HKN : Hid (k = n) := hkn
   have hki1 : ¬ ((k : Int) < (n : Int)) := by omega
   clear hkn
   go_wp2
   refine bodyPost_ret (results_tmp2 rfl _ _ _) rfl ?_
   refine ⟨HB.out, fun _ => ⟨os, cs, D, rfl, ?_, HG.out.row, fun d hd => (HG.out.shp d hd).1⟩, fun e => absurd (by rw [HR3.out]) e⟩
   rw [HDV.out, HKN.out, HLn.out]
end Go.Proofs.YtlfihndbnaaodaaGreatDoor
namespace Go.Proofs.YtlfihndbnaaodaaGreatDoor
open Go.RowKit
set_option linter.unusedVariables false
theorem vshapes_no (m : ModD) (k : Int) (w : World) (hA : Amb w) (hm : m.ok w) (hn : hasE m k ≠ 0) (S : List (Bool × List Int)) :
  Calls Tryz.prog 12 #[.agg #[.slice m.oT m.types.length m.cT, .slice m.oI m.imports.length m.cI, .slice m.oF m.funcs.length m.cF, .int .i64 m.table, .int .i64 m.pages, .int .i64 m.most, .slice m.oG m.globals.length m.cG, .slice m.oE m.exports.length m.cE, .int .i64 m.start, .slice m.oL m.elems.length m.cL, .slice m.oD m.data.length m.cD], .int .i64 k] w (ShpOut w (0, hasE m k) S) := by
 have HHF : Hid (∀ W, Below w.heap.size w W → Calls Tryz.prog 20 #[.agg #[.slice m.oT m.types.length m.cT, .slice m.oI m.imports.length m.cI, .slice m.oF m.funcs.length m.cF, .int .i64 m.table, .int .i64 m.pages, .int .i64 m.most, .slice m.oG m.globals.length m.cG, .slice m.oE m.exports.length m.cE, .int .i64 m.start, .slice m.oL m.elems.length m.cL, .slice m.oD m.data.length m.cD], .int .i64 k] W fun r w' => r = .returned (.int .i64 (hasE m k)) ∧ Below W.heap.size W w') := fun W b => vhas m k W (hA.to (b.mono (by have := hA.2.2; omega))) (hm.below b)
 have hb1 : Below w.heap.size w (w.alloc (.cells #[.slice m.oT m.types.length m.cT, .slice m.oI m.imports.length m.cI, .slice m.oF m.funcs.length m.cF, .int .i64 m.table, .int .i64 m.pages, .int .i64 m.most, .slice m.oG m.globals.length m.cG, .slice m.oE m.exports.length m.cE, .int .i64 m.start, .slice m.oL m.elems.length m.cL, .slice m.oD m.data.length m.cD] 30)) := (Below.refl _ _).alloc (Nat.le_refl _) _
 have HB1 : Hid (type_of% hb1) := hb1
 have HS : Hid (∀ w', Below (w.alloc (.cells #[.slice m.oT m.types.length m.cT, .slice m.oI m.imports.length m.cI, .slice m.oF m.funcs.length m.cF, .int .i64 m.table, .int .i64 m.pages, .int .i64 m.most, .slice m.oG m.globals.length m.cG, .slice m.oE m.exports.length m.cE, .int .i64 m.start, .slice m.oL m.elems.length m.cL, .slice m.oD m.data.length m.cD] 30)).heap.size (w.alloc (.cells #[.slice m.oT m.types.length m.cT, .slice m.oI m.imports.length m.cI, .slice m.oF m.funcs.length m.cF, .int .i64 m.table, .int .i64 m.pages, .int .i64 m.most, .slice m.oG m.globals.length m.cG, .slice m.oE m.exports.length m.cE, .int .i64 m.start, .slice m.oL m.elems.length m.cL, .slice m.oD m.data.length m.cD] 30)) w' → w'.cell? ⟨w.heap.size, 0, none⟩ = some (.slice m.oT m.types.length m.cT) ∧ w'.cell? ⟨w.heap.size, 1, none⟩ = some (.slice m.oI m.imports.length m.cI) ∧ w'.cell? ⟨w.heap.size, 2, none⟩ = some (.slice m.oF m.funcs.length m.cF) ∧ w'.cell? ⟨w.heap.size, 3, none⟩ = some (.int .i64 m.table) ∧ w'.cell? ⟨w.heap.size, 4, none⟩ = some (.int .i64 m.pages) ∧ w'.cell? ⟨w.heap.size, 5, none⟩ = some (.int .i64 m.most) ∧ w'.cell? ⟨w.heap.size, 6, none⟩ = some (.slice m.oG m.globals.length m.cG) ∧ w'.cell? ⟨w.heap.size, 7, none⟩ = some (.slice m.oE m.exports.length m.cE) ∧ w'.cell? ⟨w.heap.size, 8, none⟩ = some (.int .i64 m.start) ∧ w'.cell? ⟨w.heap.size, 9, none⟩ = some (.slice m.oL m.elems.length m.cL) ∧ w'.cell? ⟨w.heap.size, 10, none⟩ = some (.slice m.oD m.data.length m.cD)) := fun w' bz => by
  have a1 := (bz.block w.heap.size (by simp)).trans (new_block w (.cells #[.slice m.oT m.types.length m.cT, .slice m.oI m.imports.length m.cI, .slice m.oF m.funcs.length m.cF, .int .i64 m.table, .int .i64 m.pages, .int .i64 m.most, .slice m.oG m.globals.length m.cG, .slice m.oE m.exports.length m.cE, .int .i64 m.start, .slice m.oL m.elems.length m.cL, .slice m.oD m.data.length m.cD] 30))
  exact ⟨cell_at a1 0 rfl, cell_at a1 1 rfl, cell_at a1 2 rfl, cell_at a1 3 rfl, cell_at a1 4 rfl, cell_at a1 5 rfl, cell_at a1 6 rfl, cell_at a1 7 rfl, cell_at a1 8 rfl, cell_at a1 9 rfl, cell_at a1 10 rfl⟩
 obtain ⟨f0, f1, f2, f3, f4, f5, f6, f7, f8, f9, f10⟩ := HS.out _ (Below.refl _ _)
 generalize hasE m k = E at *
 clear hb1 hm hA
 go_enter Tryz.func12, Tryz.ntmps12
 go_wp2_with fail
 refine (HHF.out _ HB1.out).mono ?_
 rintro r w1 ⟨rfl, b1⟩
 have HB2 : Hid (Below w.heap.size w w1) := HB1.out.trans (b1.mono (by simp))
 clear b1 HS HHF HB1 f0 f1 f2 f3 f4 f5 f6 f7 f8 f9 f10
 have hb0 : (E == 0) = false := by rw [beq_eq_false_iff_ne]; exact hn
 have hn0 : (E != 0) = true := by rw [bne, hb0]; rfl
 have HN : Hid (E ≠ 0) := hn
 go_wp2
 refine bodyPost_ret (results_tmp2 rfl _ _ _) rfl ?_
 exact ⟨HB2.out, fun e => absurd e HN.out, fun _ => rfl⟩
theorem vshapes (m : ModD) (k : Int) (w : World) (hA : Amb w) (hm : m.ok w) (hg : 1 < w.heap.size) :
  Calls Tryz.prog 12 #[.agg #[.slice m.oT m.types.length m.cT, .slice m.oI m.imports.length m.cI, .slice m.oF m.funcs.length m.cF, .int .i64 m.table, .int .i64 m.pages, .int .i64 m.most, .slice m.oG m.globals.length m.cG, .slice m.oE m.exports.length m.cE, .int .i64 m.start, .slice m.oL m.elems.length m.cL, .slice m.oD m.data.length m.cD], .int .i64 k] w (ShpOut w (funV m k) (shapesV m k.toNat)) := by
 unfold funV
 by_cases h : hasE m k = 0
 ·rw [if_pos h]
  obtain ⟨h1, h2, h3⟩ := has_zero h
  obtain ⟨hc0, hc2⟩ := head_zero h1
  exact vshapes_ok m k w hm hc0 hc2 h2 h3 hA.1 hA h hg
 ·rw [if_neg h]
  exact vshapes_no m k w hA hm h _
end Go.Proofs.YtlfihndbnaaodaaGreatDoor
