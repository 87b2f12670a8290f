/-
 What the program knows while it goes through a body: its record in memory; need, inner and take.
 The program's own take.
 The program's own takeAll: a range over slices.Backward.
 The program's own give, and what stays where the record turns.
 The program's own choose and finish.
 The program's own choose, die and turn.
-/
import Derived.Test.YtlfihndbnaaodaaGreatDoorIVC
import Derived.Laws.OwnMore
import Derived.BigQuiet
import Derived.RangeFuncNested
import Derived.RangeFuncBound
import Derived.RangeFuncCalls
import Derived.RangeFuncLeaves
import Derived.Shelf.Abstract
import Derived.Shelf.RegionOpen
import Derived.WalkKit
import Derived.OwnWalkIn
import Derived.TacticsInMore
import Derived.LoopNIn
import Derived.LoopIn
import Derived.Test.YtlfihndbnaaodaaGreatDoorIQP
import Derived.Deep.AppendLies
import Derived.Deep.RegionHeld3
set_option maxHeartbeats 8000000
set_option maxRecDepth 1000000
namespace Go.Proofs.YtlfihndbnaaodaaGreatDoor
open Go.RowKit
set_option linter.unusedVariables false
structure BlkD where
 op : Int
 ks : NumD
 base : Nat
 dead : Bool
def BlkD.cells (b : BlkD) : List Value := [.int .u8 b.op, .slice b.ks.o b.ks.n b.ks.cap, .int .i64 (b.base : Int), .bool b.dead]
def trkC (M : Nat → Value) (a b c : Value) : Array Value := #[M 0, M 1, M 2, M 3, M 4, M 5, M 6, M 7, M 8, M 9, M 10, M 11, a, b, c]
def offRow (P : Nat) (so oo : Option Addr) (d : NumD) : Prop := d.n = 0 ∨ ∃ a : Addr, d.o = some a ∧ a.block ≠ P ∧ (∀ g : Addr, so = some g → a.block ≠ g.block) ∧ ∀ g : Addr, oo = some g → a.block ≠ g.block
structure TK (w : World) (N P : Nat) (M : Nat → Value) (so : Option Addr) (sc : Nat) (oo : Option Addr) (oc : Nat) (st : List Int) (ops : List BlkD) (bad : Bool) : Prop where
 box : w.heap[P]? = some (.cells (trkC M (.slice so st.length sc) (.slice oo ops.length oc) (.bool bad)) 110 (0, 0))
 stk : w.ownsRow N 69 1 (.slice so st.length sc) st.length (st.map (Value.int .u8))
 opn : w.ownsRow N 107 4 (.slice oo ops.length oc) ops.length (ops.flatMap BlkD.cells)
 kin : ∀ b ∈ ops, b.ks.ok .u8 w ∧ offRow P so oo b.ks
 np : N ≤ P
section
variable {w w' : World} {N P : Nat} {M : Nat → Value} {so : Option Addr} {sc : Nat} {oo : Option Addr} {oc : Nat} {st : List Int} {ops : List BlkD} {bad : Bool}
theorem own_below {B : Nat} {t : TypeId} {k : Nat} {v : Value} {n : Nat} {xs : List Value} (h : w.ownsRow B t k v n xs) (b : Below w.heap.size w w') : w'.ownsRow B t k v n xs := by
 refine ⟨h.1, ?_⟩
 rcases h.2 with hn | ⟨g, c, cur, hv, hb, hg, rest⟩
 ·exact Or.inl hn
 ·exact Or.inr ⟨g, c, cur, hv, hb, by rw [b.block g (some_lt hg)]; exact hg, rest⟩
theorem TK.lt (h : TK w N P M so sc oo oc st ops bad) : P < w.heap.size := some_lt h.box
theorem TK.below (h : TK w N P M so sc oo oc st ops bad) (b : Below w.heap.size w w') : TK w' N P M so sc oo oc st ops bad :=
 ⟨by rw [b.block P h.lt]; exact h.box, own_below h.stk b, own_below h.opn b, fun x hx => ⟨(h.kin x hx).1.below b, (h.kin x hx).2⟩, h.np⟩
theorem trk_cell {a b c : Value} {t : TypeId} (h : w.heap[P]? = some (.cells (trkC M a b c) t (0, 0))) (i : Nat) {v : Value} (hv : (trkC M a b c)[i]? = some v) : w.cell? ⟨P, i, none⟩ = some v := by
 simp only [World.cell?, h]
 exact hv
theorem trk_thaw {a b c : Value} {t : TypeId} (h : w.heap[P]? = some (.cells (trkC M a b c) t (0, 0))) (i : Nat) : w.frozen? ⟨P, i, none⟩ = false := by
 simp [World.frozen?, h]
theorem TK.c12 (h : TK w N P M so sc oo oc st ops bad) : w.cell? ⟨P, 12, none⟩ = some (.slice so st.length sc) := trk_cell h.box 12 rfl
theorem TK.c13 (h : TK w N P M so sc oo oc st ops bad) : w.cell? ⟨P, 13, none⟩ = some (.slice oo ops.length oc) := trk_cell h.box 13 rfl
theorem TK.c14 (h : TK w N P M so sc oo oc st ops bad) : w.cell? ⟨P, 14, none⟩ = some (.bool bad) := trk_cell h.box 14 rfl
theorem TK.opn_ne (h : TK w N P M so sc oo oc st ops bad) : (Value.slice oo ops.length oc).ownBlock ≠ some P := by
 intro e
 rcases h.opn.2 with ⟨h1, _⟩ | ⟨g, c, cur, h1, _, hg, _⟩
 ·rw [h1] at e
  simp [Value.ownBlock] at e
 ·rw [h1] at e
  simp only [Value.ownBlock, Option.some.injEq] at e
  rw [e, h.box] at hg
  simp only [Option.some.injEq, Obj.cells.injEq] at hg
  exact absurd hg.2.1 (by decide)
theorem TK.stk_ne (h : TK w N P M so sc oo oc st ops bad) : (Value.slice so st.length sc).ownBlock ≠ some P := by
 intro e
 rcases h.stk.2 with ⟨h1, _⟩ | ⟨g, c, cur, h1, _, hg, _⟩
 ·rw [h1] at e
  simp [Value.ownBlock] at e
 ·rw [h1] at e
  simp only [Value.ownBlock, Option.some.injEq] at e
  rw [e, h.box] at hg
  simp only [Option.some.injEq, Obj.cells.injEq] at hg
  exact absurd hg.2.1 (by decide)
theorem own_chg {B : Nat} {t : TypeId} {k : Nat} {v : Value} {n : Nat} {xs : List Value} (h : w.ownsRow B t k v n xs) (c : Chg P w w') (hv : v.ownBlock ≠ some P) : w'.ownsRow B t k v n xs := by
 refine ⟨h.1, ?_⟩
 rcases h.2 with hn | ⟨g, cp, cur, rfl, hb, hg, rest⟩
 ·exact Or.inl hn
 ·exact Or.inr ⟨g, cp, cur, rfl, hb, by rw [c.block g (some_lt hg) (fun e => hv (by rw [← e]; rfl))]; exact hg, rest⟩
theorem NumD.ok.chg {k : IntKind} {d : NumD} (h : d.ok k w) (c : Chg P w w') (hP : d.n = 0 ∨ ∃ a : Addr, d.o = some a ∧ a.block ≠ P) : d.ok k w' := by
 refine ⟨h.le, h.most, h.len, h.nil, h.wf, ?_⟩
 rcases h.at' with h0 | ⟨a, h1, h2, h3⟩
 ·exact Or.inl h0
 ·rcases hP with h0 | ⟨a', e, hne⟩
  ·exact Or.inl h0
  ·obtain rfl : a' = a := by rw [e] at h1; exact Option.some.inj h1
   refine Or.inr ⟨a', e, Nat.lt_of_lt_of_le h2 c.size, fun i hi => ?_⟩
   rw [World.cell?_of_block (w := w) (by rw [add_block]; exact c.block _ h2 hne)]
   exact h3 i hi
theorem TK.set {a b c : Value} (h : TK w N P M so sc oo oc st ops bad) (c : Chg P w w') (n : Nat) (hn : n ≤ st.length) (bad' : Bool) (hb : w'.heap[P]? = some (.cells (trkC M (.slice so n sc) (.slice oo ops.length oc) (.bool bad')) 110 (0, 0))) : TK w' N P M so sc oo oc (st.take n) ops bad' := by
 have hl : (st.take n).length = n := by rw [List.length_take]; omega
 refine ⟨by rw [hl]; exact hb, ?_, own_chg h.opn c h.opn_ne, fun x hx => ⟨(h.kin x hx).1.chg c ?_, (h.kin x hx).2⟩, h.np⟩
 ·have h2 := own_chg h.stk c h.stk_ne
  rw [hl]
  refine ⟨by rw [List.length_map, hl, Nat.mul_one], ?_⟩
  rcases h2.2 with ⟨h3, h4⟩ | ⟨g, cp, cur, h3, hbg, hg, h5, h6, h7, h8⟩
  ·simp only [Value.slice.injEq] at h3
   obtain ⟨rfl, _, rfl⟩ := h3
   obtain rfl : n = 0 := by omega
   exact Or.inl ⟨rfl, rfl⟩
  ·simp only [Value.slice.injEq] at h3
   obtain ⟨rfl, _, rfl⟩ := h3
   refine Or.inr ⟨g, sc, cur, rfl, hbg, hg, by omega, h6, h7, ?_⟩
   rw [List.map_take, ← h8, List.take_take, Nat.mul_one, Nat.mul_one]
   congr 1
   omega
 ·rcases (h.kin x hx).2 with h0 | ⟨a, h1, h2, _⟩
  ·exact Or.inl h0
  ·exact Or.inr ⟨a, h1, h2⟩
end
theorem vneed (N P : Nat) (M : Nat → Value) (so : Option Addr) (sc : Nat) (oo : Option Addr) (oc : Nat) (st : List Int) (ops : List BlkD) (bad hb : Bool) (w : World) (h : TK w N P M so sc oo oc st ops bad) :
  Calls Tryz.prog 52 #[.pointer (some ⟨P, 0, none⟩), .bool hb] w fun r w' => r = .returned (.tuple #[]) ∧ TK w' N P M so sc oo oc st ops (bad || !hb) ∧ Chg P w w' := by
 have HH : Hid (TK w N P M so sc oo oc st ops bad) := h
 have c14 := h.c14
 have f14 := trk_thaw h.box 14
 clear h
 cases hb with
 | true =>
  go_enter Tryz.func52, Tryz.ntmps52
  go_wp2
  go_end0
  exact ⟨rfl, by simpa using HH.out, Chg.refl _ _⟩
 | false =>
  go_enter Tryz.func52, Tryz.ntmps52
  go_wp2
  go_end0
  have hc : Chg P w (w.setCell ⟨P, 14, none⟩ (.bool true)) := Chg.set _ _ _ _
  refine ⟨rfl, ?_, hc⟩
  have h2 := HH.out.set (a := .bool true) (b := .bool true) (c := .bool true) hc st.length (Nat.le_refl _) true (by
   have := HH.out.box
   simp [World.setCell, Array.getElem?_modify, this, trkC])
  rw [List.take_length] at h2
  simpa using h2
theorem flat_last (L : List BlkD) (b : BlkD) (r : Nat) (hr : r < 4) : ((L ++ [b]).flatMap BlkD.cells)[L.length * 4 + r]? = b.cells[r]? := by
 have := flat_at BlkD.cells 4 (fun _ => rfl) (L ++ [b]) L.length r (by simp) hr
 rw [this]
 simp
theorem TK.inner {w : World} {N P : Nat} {M : Nat → Value} {so : Option Addr} {sc : Nat} {oo : Option Addr} {oc : Nat} {st : List Int} {ops : List BlkD} {b : BlkD} {bad : Bool} (h : TK w N P M so sc oo oc st (ops ++ [b]) bad) : ∃ g, oo = some ⟨g, 0, none⟩ ∧ N ≤ g ∧ g < w.heap.size ∧ ops.length + 1 ≤ oc ∧ oc ≤ maxLen ∧ ∀ r, r < 4 → w.cell? ⟨g, ops.length * 4 + r, none⟩ = b.cells[r]? := by
 have ho := h.opn
 rw [List.length_append, List.length_singleton] at ho
 obtain ⟨g, c, hv, hb, hg⟩ := ho.form (by omega)
 simp only [Value.slice.injEq] at hv
 obtain ⟨rfl, _, rfl⟩ := hv
 have hc : ops.length + 1 ≤ oc ∧ oc ≤ maxLen := by
  rcases ho.2 with ⟨h1, _⟩ | ⟨g', c, cur, h1, _, _, h2, h3, _⟩
  ·simp at h1
  ·simp only [Value.slice.injEq] at h1
   omega
 refine ⟨g, rfl, hb, hg, hc.1, hc.2, fun r hr => ?_⟩
 rw [ho.cellAt (ops.length * 4 + r) (by omega)]
 exact flat_last ops b r hr
theorem vinner (N P : Nat) (M : Nat → Value) (so : Option Addr) (sc : Nat) (g oc : Nat) (st : List Int) (ops : List BlkD) (b : BlkD) (bad : Bool) (w : World) (h : TK w N P M so sc (some ⟨g, 0, none⟩) oc st (ops ++ [b]) bad) :
  Calls Tryz.prog 132 #[.pointer (some ⟨P, 0, none⟩)] w fun r w' => r = .returned (.pointer (some ⟨g, ops.length * 4, none⟩)) ∧ ∃ n, w' = w.drewN n := by
 have c13 := h.c13
 obtain ⟨g', hg, _, _, hc1, hc2, _⟩ := h.inner
 rw [List.length_append, List.length_singleton] at c13
 unfold maxLen at hc2
 clear h hg
 generalize ops.length = n at *
 go_enter Tryz.func132, Tryz.ntmps132
 go_wp2
 go_quiet (fail)
 go_wp2
 go_ret
 exact ⟨by simp, ⟨_, rfl⟩⟩
end Go.Proofs.YtlfihndbnaaodaaGreatDoor
namespace Go.Proofs.YtlfihndbnaaodaaGreatDoor
open Go.RowKit
set_option linter.unusedVariables false
def takeK (k : Int) (st : List Int) (b : BlkD) (bad : Bool) : Int × List Int × Bool :=
 if st.length ≤ b.base then (k, st, bad || !b.dead) else
 (if k = 0 then st.getLastD 0 else k, st.dropLast, if k = 0 then bad else bad || !(st.getLastD 0 == k || st.getLastD 0 == 0))
theorem below_dN {w : World} (n : Nat) : Below w.heap.size w (w.drewN n) := below_drewN (Below.refl _ _) _
theorem vtake_none (N P : Nat) (M : Nat → Value) (so : Option Addr) (sc : Nat) (g oc : Nat) (st : List Int) (ops : List BlkD) (b : BlkD) (bad : Bool) (k : Int) (w : World) (h : TK w N P M so sc (some ⟨g, 0, none⟩) oc st (ops ++ [b]) bad) (hs : st.length ≤ b.base) (hb : b.base ≤ 1099511627776) :
  Calls Tryz.prog 89 #[.pointer (some ⟨P, 0, none⟩), .int .u8 k] w fun r w' => r = .returned (.int .u8 k) ∧ TK w' N P M so sc (some ⟨g, 0, none⟩) oc st (ops ++ [b]) (bad || !b.dead) ∧ Chg P w w' := by
 have HH : Hid (TK w N P M so sc (some ⟨g, 0, none⟩) oc st (ops ++ [b]) bad) := h
 have HI : Hid (∀ n, Calls Tryz.prog 132 #[.pointer (some ⟨P, 0, none⟩)] (w.drewN n) fun r w'' => r = .returned (.pointer (some ⟨g, ops.length * 4, none⟩)) ∧ ∃ m, w'' = (w.drewN n).drewN m) := fun n => vinner N P M so sc g oc st ops b bad _ (h.below (below_dN n))
 have c12 := h.c12
 obtain ⟨g', hg, _, _, hc1, hc2, hcs⟩ := h.inner
 cases hg
 have i2 : w.cell? ⟨g, ops.length * 4 + 2, none⟩ = some (.int .i64 (b.base : Int)) := hcs 2 (by omega)
 have i3 : w.cell? ⟨g, ops.length * 4 + 3, none⟩ = some (.bool b.dead) := hcs 3 (by omega)
 obtain ⟨s, hse⟩ : ∃ s, s = st.length := ⟨_, rfl⟩
 rw [← hse] at c12 hs
 clear hcs h hc1 hc2 hse
 have hlt : decide ((s : Int) - 1 < (b.base : Int)) = true := decide_eq_true (by omega)
 go_enter Tryz.func89, Tryz.ntmps89
 go_wp2_with fail
 go_quiet ((go_at_call 132; exact Calls.quiet_of (HI.out _)))
 have HH1 : Hid (TK (w.drewN nq) N P M so sc (some ⟨g, 0, none⟩) oc st (ops ++ [b]) bad) := HH.out.below (below_dN _)
 have HCh : Hid (Chg P w (w.drewN nq)) := Chg.of_below (below_dN _)
 have j2 : (w.drewN nq).cell? ⟨g, ops.length * 4 + 2, none⟩ = some (.int .i64 (b.base : Int)) := i2
 have j3 : (w.drewN nq).cell? ⟨g, ops.length * 4 + 3, none⟩ = some (.bool b.dead) := i3
 generalize w.drewN nq = w1 at HH1 HCh j2 j3
 clear i2 i3 c12
 go_wp2_with fail
 refine (vneed N P M so sc _ oc st (ops ++ [b]) bad b.dead w1 HH1.out).mono ?_
 rintro r w2 ⟨rfl, h2, hc⟩
 have H2 : Hid (type_of% h2) := h2
 have HC : Hid (Chg P w w2) := HCh.out.trans hc
 clear h2 hc
 go_wp2
 go_ret
 exact ⟨rfl, H2.out, HC.out⟩
theorem TK.top {w : World} {N P : Nat} {M : Nat → Value} {so : Option Addr} {sc : Nat} {oo : Option Addr} {oc : Nat} {st : List Int} {x : Int} {ops : List BlkD} {bad : Bool} (h : TK w N P M so sc oo oc (st ++ [x]) ops bad) : ∃ q, so = some ⟨q, 0, none⟩ ∧ N ≤ q ∧ q < w.heap.size ∧ st.length + 1 ≤ sc ∧ sc ≤ maxLen ∧ w.cell? ⟨q, st.length, none⟩ = some (.int .u8 x) := by
 have ho := h.stk
 rw [List.length_append, List.length_singleton] at ho
 obtain ⟨q, c, hv, hb, hg⟩ := ho.form (by omega)
 simp only [Value.slice.injEq] at hv
 obtain ⟨rfl, _, rfl⟩ := hv
 have hc : st.length + 1 ≤ sc ∧ sc ≤ maxLen := by
  rcases ho.2 with ⟨h1, _⟩ | ⟨g', c, cur, h1, _, _, h2, h3, _⟩
  ·simp at h1
  ·simp only [Value.slice.injEq] at h1
   omega
 refine ⟨q, rfl, hb, hg, hc.1, hc.2, ?_⟩
 rw [ho.cellAt st.length (by omega), List.map_append, List.getElem?_append_right (by simp)]
 simp
theorem TK.pop {w w' : World} {N P : Nat} {M : Nat → Value} {so : Option Addr} {sc : Nat} {oo : Option Addr} {oc : Nat} {st : List Int} {x : Int} {ops : List BlkD} {bad : Bool} (h : TK w N P M so sc oo oc (st ++ [x]) ops bad) (c : Chg P w w') (hb : w'.heap[P]? = some (.cells (trkC M (.slice so st.length sc) (.slice oo ops.length oc) (.bool bad)) 110 (0, 0))) : TK w' N P M so sc oo oc st ops bad := by
 have := h.set (a := .bool true) (b := .bool true) (c := .bool true) c st.length (by simp) bad hb
 rw [List.take_left] at this
 exact this
theorem vtake_zero (N P : Nat) (M : Nat → Value) (so : Option Addr) (sc : Nat) (g oc : Nat) (st : List Int) (x : Int) (ops : List BlkD) (b : BlkD) (bad : Bool) (k : Int) (w : World) (h : TK w N P M so sc (some ⟨g, 0, none⟩) oc (st ++ [x]) (ops ++ [b]) bad) (hs : b.base ≤ st.length) (hb : st.length ≤ 1099511627776) (hk : k = 0) :
  Calls Tryz.prog 89 #[.pointer (some ⟨P, 0, none⟩), .int .u8 k] w fun r w' => r = .returned (.int .u8 x) ∧ TK w' N P M so sc (some ⟨g, 0, none⟩) oc st (ops ++ [b]) bad ∧ Chg P w w' := by
 have HI : Hid (∀ n, Calls Tryz.prog 132 #[.pointer (some ⟨P, 0, none⟩)] (w.drewN n) fun r w'' => r = .returned (.pointer (some ⟨g, ops.length * 4, none⟩)) ∧ ∃ m, w'' = (w.drewN n).drewN m) := fun n => vinner N P M so sc g oc (st ++ [x]) ops b bad _ (h.below (below_dN n))
 have c12 := h.c12
 rw [List.length_append, List.length_singleton] at c12
 obtain ⟨g', hg, _, _, hc1, hc2, hcs⟩ := h.inner
 cases hg
 have i2 : w.cell? ⟨g, ops.length * 4 + 2, none⟩ = some (.int .i64 (b.base : Int)) := hcs 2 (by omega)
 obtain ⟨q, rfl, hq1, hq2, hq3, hq4, hq5⟩ := h.top
 unfold maxLen at hq4
 have f12 := trk_thaw h.box 12
 have HH : Hid (TK w N P M (some ⟨q, 0, none⟩) sc (some ⟨g, 0, none⟩) oc (st ++ [x]) (ops ++ [b]) bad) := h
 obtain ⟨s, hse⟩ : ∃ s, s = st.length := ⟨_, rfl⟩
 have HSE : Hid (s = st.length) := hse
 rw [← hse] at c12 hs hq3 hq5 hb
 clear hcs h hc1 hc2 hse hq1 hq2
 have hlt : decide ((s : Int) < (b.base : Int)) = false := decide_eq_false (by omega)
 have hadd : (s : Int) + 1 - 1 = (s : Int) := by omega
 go_enter Tryz.func89, Tryz.ntmps89
 go_wp2_with fail
 go_quiet ((go_at_call 132; exact Calls.quiet_of (HI.out _)))
 have HH1 : Hid (TK (w.drewN nq) N P M (some ⟨q, 0, none⟩) sc (some ⟨g, 0, none⟩) oc (st ++ [x]) (ops ++ [b]) bad) := HH.out.below (below_dN _)
 have HCh : Hid (Chg P w (w.drewN nq)) := Chg.of_below (below_dN _)
 have j2 : (w.drewN nq).cell? ⟨g, ops.length * 4 + 2, none⟩ = some (.int .i64 (b.base : Int)) := i2
 have j5 : (w.drewN nq).cell? ⟨q, s, none⟩ = some (.int .u8 x) := hq5
 have j12 : (w.drewN nq).cell? ⟨P, 12, none⟩ = some (.slice (some ⟨q, 0, none⟩) (s + 1) sc) := c12
 have jf : (w.drewN nq).frozen? ⟨P, 12, none⟩ = false := f12
 generalize w.drewN nq = w1 at HH1 HCh j2 j5 j12 jf
 clear i2 c12 hq5 f12
 have hch : Chg P w1 (w1.setCell ⟨P, 12, none⟩ (.slice (some ⟨q, 0, none⟩) s sc)) := Chg.set _ _ _ _
 have HTK : Hid (TK (w1.setCell ⟨P, 12, none⟩ (.slice (some ⟨q, 0, none⟩) s sc)) N P M (some ⟨q, 0, none⟩) sc (some ⟨g, 0, none⟩) oc st (ops ++ [b]) bad) := HH1.out.pop hch (by
  have := HH1.out.box
  rw [HSE.out]
  simp [World.setCell, Array.getElem?_modify, this, trkC])
 have HC2 : Hid (Chg P w (w1.setCell ⟨P, 12, none⟩ (.slice (some ⟨q, 0, none⟩) s sc))) := HCh.out.trans hch
 clear hch
 subst hk
 go_wp2
 go_ret
 exact ⟨rfl, HTK.out, HC2.out⟩
theorem vtake_same (N P : Nat) (M : Nat → Value) (so : Option Addr) (sc : Nat) (g oc : Nat) (st : List Int) (x : Int) (ops : List BlkD) (b : BlkD) (bad : Bool) (k : Int) (w : World) (h : TK w N P M so sc (some ⟨g, 0, none⟩) oc (st ++ [x]) (ops ++ [b]) bad) (hs : b.base ≤ st.length) (hb : st.length ≤ 1099511627776) (hk : k ≠ 0) (hx : x = k) :
  Calls Tryz.prog 89 #[.pointer (some ⟨P, 0, none⟩), .int .u8 k] w fun r w' => r = .returned (.int .u8 k) ∧ TK w' N P M so sc (some ⟨g, 0, none⟩) oc st (ops ++ [b]) bad ∧ Chg P w w' := by
 have HI : Hid (∀ n, Calls Tryz.prog 132 #[.pointer (some ⟨P, 0, none⟩)] (w.drewN n) fun r w'' => r = .returned (.pointer (some ⟨g, ops.length * 4, none⟩)) ∧ ∃ m, w'' = (w.drewN n).drewN m) := fun n => vinner N P M so sc g oc (st ++ [x]) ops b bad _ (h.below (below_dN n))
 have c12 := h.c12
 rw [List.length_append, List.length_singleton] at c12
 obtain ⟨g', hg, _, _, hc1, hc2, hcs⟩ := h.inner
 cases hg
 have i2 : w.cell? ⟨g, ops.length * 4 + 2, none⟩ = some (.int .i64 (b.base : Int)) := hcs 2 (by omega)
 obtain ⟨q, rfl, hq1, hq2, hq3, hq4, hq5⟩ := h.top
 unfold maxLen at hq4
 have f12 := trk_thaw h.box 12
 have HH : Hid (TK w N P M (some ⟨q, 0, none⟩) sc (some ⟨g, 0, none⟩) oc (st ++ [x]) (ops ++ [b]) bad) := h
 obtain ⟨s, hse⟩ : ∃ s, s = st.length := ⟨_, rfl⟩
 have HSE : Hid (s = st.length) := hse
 rw [← hse] at c12 hs hq3 hq5 hb
 clear hcs h hc1 hc2 hse hq1 hq2
 have hlt : decide ((s : Int) < (b.base : Int)) = false := decide_eq_false (by omega)
 have hadd : (s : Int) + 1 - 1 = (s : Int) := by omega
 go_enter Tryz.func89, Tryz.ntmps89
 go_wp2_with fail
 go_quiet ((go_at_call 132; exact Calls.quiet_of (HI.out _)))
 have HH1 : Hid (TK (w.drewN nq) N P M (some ⟨q, 0, none⟩) sc (some ⟨g, 0, none⟩) oc (st ++ [x]) (ops ++ [b]) bad) := HH.out.below (below_dN _)
 have HCh : Hid (Chg P w (w.drewN nq)) := Chg.of_below (below_dN _)
 have j2 : (w.drewN nq).cell? ⟨g, ops.length * 4 + 2, none⟩ = some (.int .i64 (b.base : Int)) := i2
 have j5 : (w.drewN nq).cell? ⟨q, s, none⟩ = some (.int .u8 x) := hq5
 have j12 : (w.drewN nq).cell? ⟨P, 12, none⟩ = some (.slice (some ⟨q, 0, none⟩) (s + 1) sc) := c12
 have jf : (w.drewN nq).frozen? ⟨P, 12, none⟩ = false := f12
 generalize w.drewN nq = w1 at HH1 HCh j2 j5 j12 jf
 clear i2 c12 hq5 f12
 have hch : Chg P w1 (w1.setCell ⟨P, 12, none⟩ (.slice (some ⟨q, 0, none⟩) s sc)) := Chg.set _ _ _ _
 have HTK : Hid (TK (w1.setCell ⟨P, 12, none⟩ (.slice (some ⟨q, 0, none⟩) s sc)) N P M (some ⟨q, 0, none⟩) sc (some ⟨g, 0, none⟩) oc st (ops ++ [b]) bad) := HH1.out.pop hch (by
  have := HH1.out.box
  rw [HSE.out]
  simp [World.setCell, Array.getElem?_modify, this, trkC])
 have HC2 : Hid (Chg P w (w1.setCell ⟨P, 12, none⟩ (.slice (some ⟨q, 0, none⟩) s sc))) := HCh.out.trans hch
 clear hch
 subst hx
 have hkb : (x == 0) = false := by simp [hk]
 go_wp2_with fail
 refine (vneed N P M _ sc _ oc st (ops ++ [b]) bad true _ HTK.out).mono ?_
 rintro r w2 ⟨rfl, h2, hc⟩
 have H2 : Hid (type_of% h2) := h2
 have HC3 : Hid (Chg P w w2) := HC2.out.trans hc
 clear h2 hc
 go_wp2
 go_ret
 exact ⟨rfl, by simpa using H2.out, HC3.out⟩
theorem vtake_other (N P : Nat) (M : Nat → Value) (so : Option Addr) (sc : Nat) (g oc : Nat) (st : List Int) (x : Int) (ops : List BlkD) (b : BlkD) (bad : Bool) (k : Int) (w : World) (h : TK w N P M so sc (some ⟨g, 0, none⟩) oc (st ++ [x]) (ops ++ [b]) bad) (hs : b.base ≤ st.length) (hb : st.length ≤ 1099511627776) (hk : k ≠ 0) (hx : x ≠ k) :
  Calls Tryz.prog 89 #[.pointer (some ⟨P, 0, none⟩), .int .u8 k] w fun r w' => r = .returned (.int .u8 k) ∧ TK w' N P M so sc (some ⟨g, 0, none⟩) oc st (ops ++ [b]) (bad || !(x == 0)) ∧ Chg P w w' := by
 have HI : Hid (∀ n, Calls Tryz.prog 132 #[.pointer (some ⟨P, 0, none⟩)] (w.drewN n) fun r w'' => r = .returned (.pointer (some ⟨g, ops.length * 4, none⟩)) ∧ ∃ m, w'' = (w.drewN n).drewN m) := fun n => vinner N P M so sc g oc (st ++ [x]) ops b bad _ (h.below (below_dN n))
 have c12 := h.c12
 rw [List.length_append, List.length_singleton] at c12
 obtain ⟨g', hg, _, _, hc1, hc2, hcs⟩ := h.inner
 cases hg
 have i2 : w.cell? ⟨g, ops.length * 4 + 2, none⟩ = some (.int .i64 (b.base : Int)) := hcs 2 (by omega)
 obtain ⟨q, rfl, hq1, hq2, hq3, hq4, hq5⟩ := h.top
 unfold maxLen at hq4
 have f12 := trk_thaw h.box 12
 have HH : Hid (TK w N P M (some ⟨q, 0, none⟩) sc (some ⟨g, 0, none⟩) oc (st ++ [x]) (ops ++ [b]) bad) := h
 obtain ⟨s, hse⟩ : ∃ s, s = st.length := ⟨_, rfl⟩
 have HSE : Hid (s = st.length) := hse
 rw [← hse] at c12 hs hq3 hq5 hb
 clear hcs h hc1 hc2 hse hq1 hq2
 have hlt : decide ((s : Int) < (b.base : Int)) = false := decide_eq_false (by omega)
 have hadd : (s : Int) + 1 - 1 = (s : Int) := by omega
 go_enter Tryz.func89, Tryz.ntmps89
 go_wp2_with fail
 go_quiet ((go_at_call 132; exact Calls.quiet_of (HI.out _)))
 have HH1 : Hid (TK (w.drewN nq) N P M (some ⟨q, 0, none⟩) sc (some ⟨g, 0, none⟩) oc (st ++ [x]) (ops ++ [b]) bad) := HH.out.below (below_dN _)
 have HCh : Hid (Chg P w (w.drewN nq)) := Chg.of_below (below_dN _)
 have j2 : (w.drewN nq).cell? ⟨g, ops.length * 4 + 2, none⟩ = some (.int .i64 (b.base : Int)) := i2
 have j5 : (w.drewN nq).cell? ⟨q, s, none⟩ = some (.int .u8 x) := hq5
 have j12 : (w.drewN nq).cell? ⟨P, 12, none⟩ = some (.slice (some ⟨q, 0, none⟩) (s + 1) sc) := c12
 have jf : (w.drewN nq).frozen? ⟨P, 12, none⟩ = false := f12
 generalize w.drewN nq = w1 at HH1 HCh j2 j5 j12 jf
 clear i2 c12 hq5 f12
 have hch : Chg P w1 (w1.setCell ⟨P, 12, none⟩ (.slice (some ⟨q, 0, none⟩) s sc)) := Chg.set _ _ _ _
 have HTK : Hid (TK (w1.setCell ⟨P, 12, none⟩ (.slice (some ⟨q, 0, none⟩) s sc)) N P M (some ⟨q, 0, none⟩) sc (some ⟨g, 0, none⟩) oc st (ops ++ [b]) bad) := HH1.out.pop hch (by
  have := HH1.out.box
  rw [HSE.out]
  simp [World.setCell, Array.getElem?_modify, this, trkC])
 have HC2 : Hid (Chg P w (w1.setCell ⟨P, 12, none⟩ (.slice (some ⟨q, 0, none⟩) s sc))) := HCh.out.trans hch
 clear hch
 have hkb : (k == 0) = false := by simp [hk]
 have hxb : (x == k) = false := by simp [hx]
 go_wp2_with fail
 refine (vneed N P M _ sc _ oc st (ops ++ [b]) bad (x == 0) _ HTK.out).mono ?_
 rintro r w2 ⟨rfl, h2, hc⟩
 have H2 : Hid (type_of% h2) := h2
 have HC3 : Hid (Chg P w w2) := HC2.out.trans hc
 clear h2 hc
 go_wp2
 go_ret
 exact ⟨rfl, H2.out, HC3.out⟩
theorem vtake (N P : Nat) (M : Nat → Value) (so : Option Addr) (sc : Nat) (g oc : Nat) (st : List Int) (ops : List BlkD) (b : BlkD) (bad : Bool) (k : Int) (w : World) (h : TK w N P M so sc (some ⟨g, 0, none⟩) oc st (ops ++ [b]) bad) (hs : st.length ≤ 1099511627776) (hb : b.base ≤ 1099511627776) :
  Calls Tryz.prog 89 #[.pointer (some ⟨P, 0, none⟩), .int .u8 k] w fun r w' => r = .returned (.int .u8 (takeK k st b bad).1) ∧ TK w' N P M so sc (some ⟨g, 0, none⟩) oc (takeK k st b bad).2.1 (ops ++ [b]) (takeK k st b bad).2.2 ∧ Chg P w w' := by
 unfold takeK
 by_cases hl : st.length ≤ b.base
 ·rw [if_pos hl]
  exact vtake_none N P M so sc g oc st ops b bad k w h hl hb
 ·rw [if_neg hl]
  obtain ⟨s, x, rfl⟩ : ∃ s x, st = s ++ [x] := ⟨st.dropLast, st.getLast (fun e => by rw [e] at hl; exact hl (by simp)), (List.dropLast_concat_getLast _).symm⟩
  rw [List.length_append, List.length_singleton] at hl hs
  rw [List.dropLast_concat, show (s ++ [x]).getLastD 0 = x by simp [List.getLastD_eq_getLast?]]
  by_cases hk : k = 0
  ·rw [if_pos hk, if_pos hk]
   exact vtake_zero N P M so sc g oc s x ops b bad k w h (by omega) (by omega) hk
  ·rw [if_neg hk, if_neg hk]
   by_cases hx : x = k
   ·have e : (bad || !(x == k || x == 0)) = bad := by rw [hx]; simp
    show Calls _ _ _ _ _
    dsimp only
    rw [e]
    exact vtake_same N P M so sc g oc s x ops b bad k w h (by omega) (by omega) hk hx
   ·have e : (bad || !(x == k || x == 0)) = (bad || !(x == 0)) := by rw [show (x == k) = false from beq_false_of_ne hx]; rfl
    dsimp only
    rw [e]
    exact vtake_other N P M so sc g oc s x ops b bad k w h (by omega) (by omega) hk hx
end Go.Proofs.YtlfihndbnaaodaaGreatDoor
namespace Go.Proofs.YtlfihndbnaaodaaGreatDoor
open Go.RowKit Go.Shelf
set_option linter.unusedVariables false
attribute [local go_sem] Oper.semAt_some
structure KB (n0 P : Nat) (W W' : World) : Prop where
 size : W.heap.size ≤ W'.heap.size
 blk : ∀ k, k < n0 → k < W.heap.size → k ≠ P → W'.heap[k]? = W.heap[k]?
theorem KB.refl (n0 P : Nat) (W : World) : KB n0 P W W := ⟨Nat.le_refl _, fun _ _ _ _ => rfl⟩
theorem KB.trans {n0 P : Nat} {A B C : World} (h : KB n0 P A B) (k : KB n0 P B C) : KB n0 P A C := ⟨Nat.le_trans h.size k.size, fun i h1 h2 h3 => (k.blk i h1 (Nat.lt_of_lt_of_le h2 h.size) h3).trans (h.blk i h1 h2 h3)⟩
theorem KB.chg {n0 P : Nat} {A B : World} (c : Chg P A B) : KB n0 P A B := ⟨c.size, fun k _ h2 h3 => c.block k h2 h3⟩
theorem KB.cell {n0 P : Nat} {A B : World} (h : KB n0 P A B) {p : Addr} {v : Value} (h1 : p.block < n0) (h3 : p.block ≠ P) (hc : A.cell? p = some v) : B.cell? p = some v := by
 obtain ⟨o, ho, _⟩ := cells_of_cell hc
 exact (World.cell?_of_block (h.blk p.block h1 (Array.getElem?_eq_some_iff.1 ho).1 h3)).trans hc
theorem kb_b {n0 P : Nat} {w : World} (hn : n0 ≤ w.heap.size) (W : World) (l : Nat) (o o' : Obj) (hl : w.heap.size ≤ l) (h : W.heap[l]? = some o) (_ : o.isCells = false) (_ : o.isWalk = false) : KB n0 P W (W.putObj l o') :=
 ⟨(grownBy_putObj' W l o').size, fun k h1 h2 h3 => (grownBy_putObj' W l o').block k h2 (fun e => by cases e; omega)⟩
def bwd (zs : List Int) (m : Nat) : List (Int × Int) := ((zs.zipIdx.drop m).reverse).map fun p => ((p.2 : Int), p.1)
theorem bwd_all (zs : List Int) : bwd zs zs.length = [] := by
 unfold bwd
 rw [List.drop_eq_nil_of_le (by simp)]
 rfl
theorem bwd_step (zs : List Int) (m : Nat) (h : m < zs.length) : bwd zs m = bwd zs (m + 1) ++ [((m : Int), zs[m]?.getD 0)] := by
 unfold bwd
 rw [List.drop_eq_getElem_cons (by simpa using h), List.reverse_cons, List.map_append]
 simp [h]
theorem bwd_len (zs : List Int) (m : Nat) : (bwd zs m).length = zs.length - m := by simp [bwd]
theorem bwd_snd (zs : List Int) : (bwd zs 0).map Prod.snd = zs.reverse := by
 unfold bwd
 rw [List.drop_zero, List.map_map, List.map_reverse]
 congr 1
 show zs.zipIdx.map Prod.fst = zs
 exact List.zipIdx_map_fst 0 zs
theorem backward1 (F : Fence) (n : Nat) (hF : F.fn 161) (hro : F.round = none) (hn : 1 ≤ n) (l Bs n0 P b off len cap : Nat) (zs : List Int) (hz : zs.length = len) (hreach : len ≤ 1099511627776) (hc0 : len ≤ cap) (hcm : cap ≤ 9223372036854775807) (hb : b < n0) (hbP : b ≠ P) (hB : Bs < n0) (hBP : Bs ≠ P) (J Jx : List (Int × Int) → World → Prop)
  (hY : ∀ pre x W, J pre W → pre.length < len → YieldAt F (n - 1) Tryz.prog l #[.int .i64 x.1, .int .u8 x.2] W fun e W' =>
   (e = .returned (.bool true) ∧ J (pre ++ [x]) W' ∧ KB n0 P W W') ∨ (e = .returned (.bool false) ∧ Jx (pre ++ [x]) W'))
  (W : World) (hBs : W.cell? ⟨Bs, 0, none⟩ = some (.slice (some ⟨b, off, none⟩) len cap)) (hc : ∀ j, j < len → W.cell? ⟨b, off + j, none⟩ = some (.int .u8 (zs[j]?.getD 0))) (h0 : J [] W) :
  CallsIn F n Tryz.prog 161 #[.func (.yield l) #[] #[], .pointer (some ⟨Bs, 0, none⟩)] W fun e W' => (∃ v, e = .returned v) ∧
   ((∃ ys, ys.map Prod.snd = zs.reverse ∧ J ys W') ∨ (∃ pre, True ∧ Jx pre W')) := by
 have HZ : Hid (zs.length = len) := hz
 have HQ : Hid (b < n0 ∧ b ≠ P ∧ Bs < n0 ∧ Bs ≠ P) := ⟨hb, hbP, hB, hBP⟩
 have HY : Hid (type_of% hY) := hY
 have HC : Hid (type_of% hc) := hc
 have HJ0 : Hid (J [] W) := h0
 clear hz hb hbP hB hBP hY hc h0
 refine callsIn_of_wp Tryz.func161 rfl hF ?_ hro
 simp only [Tryz.ntmps161, List.size_toArray, List.length_cons, List.length_nil, Nat.reduceAdd, Nat.reduceSub, Array.replicate_succ, Array.replicate_zero, List.push_toArray, List.append_toArray, List.nil_append, List.cons_append]
 gi_wp2
 gi_loopw [3] (fun i wr => ∃ (m : Nat) (z : Int), m ≤ len ∧ z = (m : Int) - 1 ∧ i = .int .i64 z ∧ J (bwd zs m) wr ∧ KB n0 P W wr) (fun i _ => (intOf i + 1).toNat)
 case atStart => exact ⟨len, _, Nat.le_refl _, rfl, rfl, by rw [← HZ.out, bwd_all]; exact HJ0.out, KB.refl _ _ _⟩
 case round =>
  obtain ⟨m, z, hm, hzm, rfl, hJs, hnx⟩ := hrel
  have hBx := hnx.cell (p := ⟨Bs, 0, none⟩) HQ.out.2.2.1 HQ.out.2.2.2 hBs
  have HN : Hid (KB n0 P W wr) := hnx
  have HJs : Hid (J (bwd zs m) wr) := hJs
  clear hnx hJs
  cases m with
  | zero =>
   obtain rfl : z = -1 := by omega
   clear hzm
   gi_wp2
   go_end0
   exact ⟨⟨_, rfl⟩, .inl ⟨_, bwd_snd zs, HJs.out⟩⟩
  | succ m =>
   obtain rfl : z = (m : Int) := by omega
   have hcx := HN.out.cell (p := ⟨b, off + m, none⟩) HQ.out.1 HQ.out.2.1 (HC.out m (by omega))
   clear hzm
   obtain ⟨fn, tmps, assign, body, hy, hR⟩ := HY.out _ ((m : Int), zs[m]?.getD 0) wr HJs.out (by rw [bwd_len, HZ.out]; omega)
   dsimp only at hy
   have hge : decide ((0 : Int) ≤ (m : Int)) = true := decide_eq_true (by omega)
   gi_wp2
   refine hR.mono ?_
   rintro e W3 (⟨rfl, hJ3, hk3⟩ | ⟨rfl, hJx3⟩)
   ·gi_wp2
    go_roundw
    case rel => exact ⟨m, _, by omega, rfl, rfl, by rw [bwd_step zs m (by rw [HZ.out]; omega)]; exact hJ3, HN.out.trans hk3⟩
    case measure => simp [intOf]
   ·gi_wp2
    refine bodyPost_ret (results_none rfl _ _ _) rfl ?_
    exact ⟨⟨_, rfl⟩, .inr ⟨_, trivial, hJx3⟩⟩
theorem backward0 (F : Fence) (n : Nat) (hF : F.fn 161) (hro : F.round = none) (l Bs : Nat) (o : Option Addr) (cap : Nat) (J : List (Int × Int) → World → Prop) (W : World) (hBs : W.cell? ⟨Bs, 0, none⟩ = some (.slice o 0 cap)) (h0 : J [] W) :
  CallsIn F n Tryz.prog 161 #[.func (.yield l) #[] #[], .pointer (some ⟨Bs, 0, none⟩)] W fun e W' => (∃ v, e = .returned v) ∧ J [] W' := by
 have HJ0 : Hid (J [] W) := h0
 clear h0
 refine callsIn_of_wp Tryz.func161 rfl hF ?_ hro
 simp only [Tryz.ntmps161, List.size_toArray, List.length_cons, List.length_nil, Nat.reduceAdd, Nat.reduceSub, Array.replicate_succ, Array.replicate_zero, List.push_toArray, List.append_toArray, List.nil_append, List.cons_append]
 gi_wp2
 gi_loopw [3] (fun i wr => i = .int .i64 (-1) ∧ Hid (J [] wr)) (fun _ _ => 0)
 case atStart => exact ⟨rfl, HJ0⟩
 case round =>
  obtain ⟨rfl, hJs⟩ := hrel
  gi_wp2
  go_end0
  exact ⟨⟨_, rfl⟩, hJs.out⟩
theorem backward_in (F : Fence) (n : Nat) (hF : F.fn 137) (hro : F.round = none) (a : Option Addr) (len cap : Nat) (w : World) :
  CallsIn F n Tryz.prog 137 #[.slice a len cap] w fun e w' => e = .returned (.func (.func 161) #[] #[.pointer (some ⟨w.heap.size, 0, none⟩)]) ∧ w' = w.alloc (.cells #[.slice a len cap] 41) := by
 refine callsIn_of_wp Tryz.func137 rfl hF ?_ hro
 simp only [Tryz.ntmps137, List.size_toArray, List.length_cons, List.length_nil, Nat.reduceAdd, Nat.reduceSub, Array.replicate_succ, Array.replicate_zero, List.push_toArray, List.append_toArray, List.nil_append, List.cons_append]
 gi_wp2
 go_ret
 exact ⟨rfl, rfl⟩
theorem backward_stops (F : Fence) (n : Nat) (hF : F.fn 161) (hro : F.round = none) (hn : 1 ≤ n) (Bs n0 P : Nat) (d : NumD) (w : World) (hd : d.ok .u8 w) (hdn : d.n ≤ 1000) (hB : Bs < n0) (hBP : Bs ≠ P) (hn0 : n0 = w.heap.size) (hdP : d.n = 0 ∨ ∃ a : Addr, d.o = some a ∧ a.block ≠ P)
  (hc : w.cell? ⟨Bs, 0, none⟩ = some (.slice d.o d.n d.cap)) :
  SeqStopsK F n Tryz.prog 161 #[.pointer (some ⟨Bs, 0, none⟩)] (fun x : Int × Int => #[.int .i64 x.1, .int .u8 x.2]) (KB n0 P) (fun ys => ys.map Prod.snd = d.xs.reverse) (fun _ => True) d.n w := fun l J Jx W hW _ _ hY h0 => by
 have hc' : W.cell? ⟨Bs, 0, none⟩ = some (.slice d.o d.n d.cap) := (hW.cell (p := ⟨Bs, 0, none⟩) (by rw [← hn0]; exact hB)).trans hc
 have hd' := hd.below hW
 rcases Nat.eq_zero_or_pos d.n with hz | hz
 ·rw [hz] at hc'
  have hx : d.xs = [] := by have := hd.len; rw [hz] at this; exact List.length_eq_zero_iff.1 this
  exact (backward0 F n hF hro l Bs d.o d.cap J W hc' h0).mono fun e W' ⟨he, hj⟩ => ⟨he, .inl ⟨[], by rw [hx]; rfl, hj⟩⟩
 ·rcases hd.at1 (Nat.le_refl _) with hx | ⟨b, f, h1, h2, h3⟩
  ·have := hd.len
   rw [hx] at this
   simp at this
   omega
  ·have hbP : b ≠ P := by
    rcases hdP with h | ⟨a, e, ha⟩
    ·omega
    ·rw [h1] at e
     cases e
     exact ha
   rw [h1] at hc'
   have hmo := hd.most
   unfold maxLen at hmo
   exact backward1 F n hF hro hn l Bs n0 P b f d.n d.cap d.xs hd.len (by omega) hd.le (by omega) (by rw [hn0]; exact h2) hbP hB hBP J Jx hY W hc' (fun j hj => by
    have hj2 : j < d.xs.length := by rw [hd.len]; exact hj
    have := h3 j hj2 0 (by omega)
    rw [Nat.mul_one, Nat.add_zero] at this
    rw [hW.cell (p := ⟨b, f + j, none⟩) h2, this, List.getElem?_eq_getElem hj2]
    rfl) h0
def tks (b : BlkD) (l : List Int) (s : List Int × Bool) : List Int × Bool := l.foldl (fun s k => ((takeK k s.1 b s.2).2.1, (takeK k s.1 b s.2).2.2)) s
theorem tks_snoc (b : BlkD) (l : List Int) (k : Int) (s : List Int × Bool) : tks b (l ++ [k]) s = ((takeK k (tks b l s).1 b (tks b l s).2).2.1, (takeK k (tks b l s).1 b (tks b l s).2).2.2) := by
 unfold tks
 rw [List.foldl_append]
 rfl
theorem takeK_len (k : Int) (st : List Int) (b : BlkD) (bad : Bool) : (takeK k st b bad).2.1.length ≤ st.length := by
 unfold takeK
 split
 ·exact Nat.le_refl _
 ·simp
theorem tks_len (b : BlkD) (l : List Int) : ∀ s, (tks b l s).1.length ≤ s.1.length := by
 induction l with
 | nil => intro s; exact Nat.le_refl _
 | cons k l ih => intro s; exact Nat.le_trans (ih _) (takeK_len k s.1 b s.2)
theorem TK.grownN {w w' : World} {N P : Nat} {M : Nat → Value} {so : Option Addr} {sc : Nat} {oo : Option Addr} {oc : Nat} {st : List Int} {ops : List BlkD} {bad : Bool} {row : Option Nat} (h : TK w N P M so sc oo oc st ops bad) (hg : w.grownBy w' row) (hr : ∀ r, row = some r → ∃ o : Obj, w.heap[r]? = some o ∧ o.isCells = false) : TK w' N P M so sc oo oc st ops bad := by
 have hk : ∀ (j : Nat) (cur : Array Value) (t : TypeId) (f : Nat × Nat), w.heap[j]? = some (.cells cur t f) → w'.heap[j]? = w.heap[j]? := fun j cur t f hj => grownBy_keeps_cells hg hr hj rfl
 have ho : ∀ {B : Nat} {t : TypeId} {k : Nat} {v : Value} {n : Nat} {xs : List Value}, w.ownsRow B t k v n xs → w'.ownsRow B t k v n xs := fun {B t k v n xs} h => by
  refine ⟨h.1, ?_⟩
  rcases h.2 with hn | ⟨g, c, cur, hv, hb, hg, rest⟩
  ·exact Or.inl hn
  ·exact Or.inr ⟨g, c, cur, hv, hb, by rw [hk g _ _ _ hg]; exact hg, rest⟩
 refine ⟨by rw [hk P _ _ _ h.box]; exact h.box, ho h.stk, ho h.opn, fun x hx => ⟨?_, (h.kin x hx).2⟩, h.np⟩
 have d := (h.kin x hx).1
 refine ⟨d.le, d.most, d.len, d.nil, d.wf, ?_⟩
 rcases d.at' with h0 | ⟨a, h1, h2, h3⟩
 ·exact Or.inl h0
 ·exact Or.inr ⟨a, h1, Nat.lt_of_lt_of_le h2 hg.size, fun i hi => cell_kept (h3 i hi) hg hr⟩
theorem Chg.grownN {w W W' : World} {P : Nat} {row : Option Nat} (c : Chg P w W) (hg : W.grownBy W' row) (hr : ∀ r, row = some r → w.heap.size ≤ r) : Chg P w W' :=
 ⟨hg.os.trans c.os, hg.tape.trans c.tape, hg.output.trans c.output, Nat.le_trans c.size hg.size, fun k h1 h2 => (hg.block k (Nat.lt_of_lt_of_le h1 c.size) (fun e => by have := hr k e.symm; omega)).trans (c.block k h1 h2)⟩
theorem Chg.keeps {w w' : World} {P : Nat} {cs : Array Value} {t : TypeId} {f : Nat × Nat} (c : Chg P w w') (h : w.heap[P]? = some (.cells cs t f)) : KeepsOthers w w' :=
 ⟨c.size, fun k o hk ho => by
  rw [c.block k (Array.getElem?_eq_some_iff.1 hk).1 (fun e => by rw [e, h] at hk; cases hk; cases ho)]
  exact hk⟩
theorem vtakeAll (N P : Nat) (M : Nat → Value) (so : Option Addr) (sc : Nat) (g oc : Nat) (st : List Int) (ops : List BlkD) (b : BlkD) (bad : Bool) (d : NumD) (w : World) (h : TK w N P M so sc (some ⟨g, 0, none⟩) oc st (ops ++ [b]) bad) (hd : d.ok .u8 w) (hdP : d.n = 0 ∨ ∃ a : Addr, d.o = some a ∧ a.block ≠ P) (hdn : d.n ≤ 1000) (hs : st.length ≤ 1099511627776) (hb : b.base ≤ 1099511627776) :
  Calls Tryz.prog 94 #[.pointer (some ⟨P, 0, none⟩), .slice d.o d.n d.cap] w fun r w' => r = .returned (.tuple #[]) ∧ TK w' N P M so sc (some ⟨g, 0, none⟩) oc (tks b d.xs.reverse (st, bad)).1 (ops ++ [b]) (tks b d.xs.reverse (st, bad)).2 ∧ Chg P w w' := by
 have hP := h.lt
 have HH : Hid (TK w N P M so sc (some ⟨g, 0, none⟩) oc st (ops ++ [b]) bad) := h
 have HD : Hid (d.ok .u8 w ∧ (d.n = 0 ∨ ∃ a : Addr, d.o = some a ∧ a.block ≠ P) ∧ d.n ≤ 1000 ∧ st.length ≤ 1099511627776 ∧ b.base ≤ 1099511627776 ∧ P < w.heap.size) := ⟨hd, hdP, hdn, hs, hb, hP⟩
 have hB0 : Below w.heap.size w ((w.alloc (.cells #[.pointer (some ⟨P, 0, none⟩)] 72)).alloc (.cells #[.slice d.o d.n d.cap] 41)) := ((Below.refl _ w).alloc (Nat.le_refl _) _).alloc (by simp) _
 have HB0 : Hid (type_of% hB0) := hB0
 clear h hd hdP hdn hs hb hP hB0
 refine (callsIn_wide (n := 3)).1 ?_
 refine callsIn_of_wp_marks Tryz.func94 rfl trivial ?_ rfl
 simp only [Tryz.ntmps94, List.size_toArray, List.length_cons, List.length_nil, Nat.reduceAdd, Nat.reduceSub, Array.replicate_succ, Array.replicate_zero, List.push_toArray, List.append_toArray, List.nil_append, List.cons_append]
 gi_wp2_with (refine ⟨trivial, ?_⟩; gi_at_call 137; refine (backward_in Fence.wide _ trivial rfl _ _ _ _).mono ?_; rintro e w' ⟨rfl, rfl⟩)
 have hc1 : ((w.alloc (.cells #[.pointer (some ⟨P, 0, none⟩)] 72)).alloc (.cells #[.slice d.o d.n d.cap] 41)).cell? ⟨w.heap.size + 1, 0, none⟩ = some (.slice d.o d.n d.cap) := by
  have := cell_one_new (w.alloc (.cells #[.pointer (some ⟨P, 0, none⟩)] 72)) (.slice d.o d.n d.cap) 41 0 _ rfl
  rw [show (w.alloc (.cells #[.pointer (some ⟨P, 0, none⟩)] 72)).heap.size = w.heap.size + 1 by simp] at this
  exact this
 have hc0 : ((w.alloc (.cells #[.pointer (some ⟨P, 0, none⟩)] 72)).alloc (.cells #[.slice d.o d.n d.cap] 41)).cell? ⟨w.heap.size, 0, none⟩ = some (.pointer (some ⟨P, 0, none⟩)) := by
  rw [(Below.refl (w.heap.size + 1) (w.alloc (.cells #[.pointer (some ⟨P, 0, none⟩)] 72))).alloc (by simp) (.cells #[.slice d.o d.n d.cap] 41) |>.cell (p := ⟨w.heap.size, 0, none⟩) (by show w.heap.size < w.heap.size + 1; omega)]
  exact cell_one_new w (.pointer (some ⟨P, 0, none⟩)) 72 0 _ rfl
 have hPw := HD.out.2.2.2.2.2
 refine wpIn_rangeFunc_ownG (n := 3) rfl (by decide) (gf := 161) (lb := #[.pointer (some ⟨w.heap.size + 1, 0, none⟩)]) rfl trivial (enters_of Tryz.func161 (by kernel_rfl) rfl)
  (backward_stops Fence.wide 2 trivial rfl (by decide) (w.heap.size + 1) (w.heap.size + 2) P d ((w.alloc (.cells #[.pointer (some ⟨P, 0, none⟩)] 72)).alloc (.cells #[.slice d.o d.n d.cap] 41)) (HD.out.1.below HB0.out) HD.out.2.2.1 (by omega) (by omega) (by simp) HD.out.2.1 hc1)
  (fun h k => h.trans k) (kb_b (by simp)) (Below.refl _ _) (fun _ => rfl)
  (fun pre W => (TK W N P M so sc (some ⟨g, 0, none⟩) oc (tks b (pre.map Prod.snd) (st, bad)).1 (ops ++ [b]) (tks b (pre.map Prod.snd) (st, bad)).2 ∧ W.cell? ⟨w.heap.size, 0, none⟩ = some (.pointer (some ⟨P, 0, none⟩))) ∧ Chg P w W)
  (fun _ _ _ => False)
  (fun s A B row hs hg hr => ⟨⟨hs.1.1.grownN hg (fun r e => (hr r e).2), cell_kept hs.1.2 hg (fun r e => (hr r e).2)⟩, hs.2.grownN hg (fun r e => by have := (hr r e).1; simp at this; omega)⟩)
  (fun _ _ _ _ _ hs _ _ => hs.elim)
  ⟨⟨HH.out.below HB0.out, hc0⟩, Chg.of_below HB0.out⟩
  (fun x => { tmps := #[.pointer (some ⟨P, 0, none⟩), .slice d.o d.n d.cap, .pointer (some ⟨w.heap.size, 0, none⟩), undef, undef, .int .u8 x.2, .slice d.o d.n d.cap, .func (.func 161) #[] #[.pointer (some ⟨w.heap.size + 1, 0, none⟩)], .int .i64 x.1, .int .u8 x.2, undef, undef, undef], defers := [] }) ?assign ?body ?done ?stop
 case assign =>
  intro l x W K hK
  gi_wp2
  exact hK
 case body =>
  rintro l pre x W ⟨⟨hT, hcl⟩, hC⟩ _
  have hlen : (tks b (pre.map Prod.snd) (st, bad)).1.length ≤ 1099511627776 := Nat.le_trans (tks_len _ _ _) HD.out.2.2.2.1
  have HV : Hid (type_of% (vtake N P M so sc g oc _ ops b _ x.2 W hT hlen HD.out.2.2.2.2.1)) := vtake N P M so sc g oc _ ops b _ x.2 W hT hlen HD.out.2.2.2.2.1
  have HT : Hid (type_of% hT) := hT
  have HC : Hid (type_of% hC) := hC
  have hcl2 : w.heap.size < W.heap.size := by
   obtain ⟨o, ho, _⟩ := cells_of_cell hcl
   exact (Array.getElem?_eq_some_iff.1 ho).1
  have HCL : Hid (W.cell? ⟨w.heap.size, 0, none⟩ = some (.pointer (some ⟨P, 0, none⟩)) ∧ w.heap.size < W.heap.size) := ⟨hcl, hcl2⟩
  clear hT hC hlen hc0 hc1 hcl2
  obtain ⟨x1, x2⟩ := x
  gi_wp2_with (refine ⟨trivial, ?_⟩; gi_at_call 89; refine (CallsIn.inRound l (callsIn_wide.2 HV.out)).mono ?_; rintro e W' ⟨rfl, hT', hC'⟩)
  refine ⟨(hC'.keeps HT.out.box).from _, KB.chg hC', ⟨?_, ?_⟩, HC.out.trans hC'⟩
  ·rw [List.map_append, List.map_cons, List.map_nil, tks_snoc]
   exact hT'
  ·rw [hC'.cell ⟨w.heap.size, 0, none⟩ HCL.out.2 (by show w.heap.size ≠ P; omega)]
   exact HCL.out.1
 case done =>
  rintro D ys W hD hS ⟨⟨hT, _⟩, hC⟩ hK
  rw [hS] at hT
  gi_wp2
  refine ⟨by simp, .inl ⟨_, _, rfl, run_takeDeferred hK, ?_⟩⟩
  exact ⟨_, results_none rfl _ _ _, rfl, hT.grownN (grownBy_putObj' W D _) (fun r e => by cases e; exact ⟨_, hK, rfl⟩), hC.grownN (grownBy_putObj' W D _) (fun r e => by cases e; simp at hD; omega)⟩
 case stop =>
  rintro D c pre W _ _ h _
  exact h.elim
end Go.Proofs.YtlfihndbnaaodaaGreatDoor
namespace Go.Proofs.YtlfihndbnaaodaaGreatDoor
open Go.RowKit
set_option linter.unusedVariables false
structure TF (P : Nat) (so oo : Option Addr) (w : World) (so' oo' : Option Addr) (w' : World) : Prop where
 os : w'.os = w.os
 tape : w'.tape = w.tape
 output : w'.output = w.output
 size : w.heap.size ≤ w'.heap.size
 block : ∀ k, k < w.heap.size → k ≠ P → (∀ g : Addr, so = some g → k ≠ g.block) → (∀ g : Addr, oo = some g → k ≠ g.block) → w'.heap[k]? = w.heap[k]?
 s : so' = so ∨ ∃ g, so' = some ⟨g, 0, none⟩ ∧ w.heap.size ≤ g
 o : oo' = oo ∨ ∃ g, oo' = some ⟨g, 0, none⟩ ∧ w.heap.size ≤ g
section
variable {P : Nat} {so oo s1 o1 s2 o2 : Option Addr} {w w1 w2 : World}
theorem TF.chg (so oo : Option Addr) (c : Chg P w w1) : TF P so oo w so oo w1 := ⟨c.os, c.tape, c.output, c.size, fun k h1 h2 _ _ => c.block k h1 h2, Or.inl rfl, Or.inl rfl⟩
theorem TF.trans (h : TF P so oo w s1 o1 w1) (k : TF P s1 o1 w1 s2 o2 w2) : TF P so oo w s2 o2 w2 := by
 refine ⟨k.os.trans h.os, k.tape.trans h.tape, k.output.trans h.output, Nat.le_trans h.size k.size, fun i h1 h2 h3 h4 => ?_, ?_, ?_⟩
 ·rw [k.block i (Nat.lt_of_lt_of_le h1 h.size) h2 ?_ ?_, h.block i h1 h2 h3 h4]
  ·intro g e
   rcases h.s with hs | ⟨g', hs, hg⟩
   ·rw [hs] at e; exact h3 g e
   ·rw [hs] at e; cases e; show i ≠ g'; omega
  ·intro g e
   rcases h.o with hs | ⟨g', hs, hg⟩
   ·rw [hs] at e; exact h4 g e
   ·rw [hs] at e; cases e; show i ≠ g'; omega
 ·rcases k.s with hs | ⟨g, hs, hg⟩
  ·rw [hs]; exact h.s
  ·exact Or.inr ⟨g, hs, Nat.le_trans h.size hg⟩
 ·rcases k.o with hs | ⟨g, hs, hg⟩
  ·rw [hs]; exact h.o
  ·exact Or.inr ⟨g, hs, Nat.le_trans h.size hg⟩
theorem TF.below {N : Nat} (h : TF P so oo w s1 o1 w1) (hP : N ≤ P) (hs : ∀ g : Addr, so = some g → N ≤ g.block) (ho : ∀ g : Addr, oo = some g → N ≤ g.block) (hN : N ≤ w.heap.size) : Below N w w1 :=
 ⟨h.os, h.tape, h.output, h.size, fun k hk => h.block k (by omega) (by omega) (fun g e => by have := hs g e; omega) (fun g e => by have := ho g e; omega)⟩
theorem NumD.ok.tf {k : IntKind} {d : NumD} (h : d.ok k w) (c : TF P so oo w s1 o1 w1) (hP : offRow P so oo d) : d.ok k w1 := by
 refine ⟨h.le, h.most, h.len, h.nil, h.wf, ?_⟩
 rcases h.at' with h0 | ⟨a, h1, h2, h3⟩
 ·exact Or.inl h0
 ·rcases hP with h0 | ⟨a', e, hne, hn2, hn3⟩
  ·exact Or.inl h0
  ·obtain rfl : a' = a := by rw [e] at h1; exact Option.some.inj h1
   refine Or.inr ⟨a', e, Nat.lt_of_lt_of_le h2 c.size, fun i hi => ?_⟩
   rw [World.cell?_of_block (w := w) (by rw [add_block]; exact c.block _ h2 hne hn2 hn3)]
   exact h3 i hi
theorem offRow.tf {d : NumD} {k : IntKind} (h : offRow P so oo d) (hd : d.ok k w) (c : TF P so oo w s1 o1 w1) : offRow P s1 o1 d := by
 rcases h with h0 | ⟨a, e, h1, h2, h3⟩
 ·exact Or.inl h0
 ·rcases Nat.eq_zero_or_pos d.n with h0 | h0
  ·exact Or.inl h0
  ·have ha : a.block < w.heap.size := by
    rcases hd.at' with h4 | ⟨a', e', h5, _⟩
    ·omega
    ·rw [e] at e'; cases e'; exact h5
   refine Or.inr ⟨a, e, h1, fun g hg => ?_, fun g hg => ?_⟩
   ·rcases c.s with hs | ⟨g', hs, hg'⟩
    ·rw [hs] at hg; exact h2 g hg
    ·rw [hs] at hg; cases hg; show a.block ≠ g'; omega
   ·rcases c.o with hs | ⟨g', hs, hg'⟩
    ·rw [hs] at hg; exact h3 g hg
    ·rw [hs] at hg; cases hg; show a.block ≠ g'; omega
end
theorem wpList_append_nil {P : Program} {w : World} {ops : Array Oper} {rest : List Oper} {o : Oper} {a : Act} {Q : Exit → Act → World → Prop} (hgd : o.guard = none) (s x : Operand) (t : TypeId)
  (ho : o.op = .call { callee := .builtin .append, args := #[s, x], argTypes := #[t, t] })
  (e : TypeId) (i : TypeInfo) (ht : P.underlying t = some (.slice e)) (hi : P.info? e = some i)
  (b : Option Addr) (n cap : Nat) (hs : a.eval s = .slice b n cap) (hle : n ≤ cap) (g : Option Addr) (c : Nat) (hx : a.eval x = .slice g 0 c)
  (h : wpList P ops Q rest (a.put o.dst (.slice b n cap)) w) : wpList P ops Q (o :: rest) a w := by
 refine wpList_plain hgd fun K hK => ?_
 have hsrc : Src P i.size t (.slice g 0 c) 0 [] w := by
  cases g with
  | none => exact Src.ofNil w ht c
  | some g => exact Src.ofSlice w ht g 0 c [] (by simp) (by simp) (by simp)
 have hrun := run_append_nothing (P := P) w t t o.type e i ht hi b n cap hle (.slice g 0 c) hsrc
 unfold Oper.wp
 simp [execOp, ho, resolve, invoke, builtin, hs, hx, hrun, Result.andThen]
 exact hK _ _ h
theorem infoKd : (Tryz.prog.info? 69).map (fun i => (i.zero, i.size, i.bytes)) = some (some (.int .u8 0), 1, 1) := by kernel_rfl
theorem TK.cap {w : World} {N P : Nat} {M : Nat → Value} {so : Option Addr} {sc : Nat} {oo : Option Addr} {oc : Nat} {st : List Int} {ops : List BlkD} {bad : Bool} (h : TK w N P M so sc oo oc st ops bad) : st.length ≤ sc ∧ sc ≤ maxLen := by
 rcases h.stk.2 with ⟨h1, h2⟩ | ⟨g, c, cur, h1, _, _, h2, h3, _⟩
 ·simp only [Value.slice.injEq] at h1
  unfold maxLen
  omega
 ·simp only [Value.slice.injEq] at h1
  omega
theorem vgive_no (N P : Nat) (M : Nat → Value) (so : Option Addr) (sc : Nat) (oo : Option Addr) (oc : Nat) (st : List Int) (ops : List BlkD) (bad : Bool) (g : Option Addr) (c : Nat) (w : World) (h : TK w N P M so sc oo oc st ops bad) :
  Calls Tryz.prog 95 #[.pointer (some ⟨P, 0, none⟩), .slice g 0 c] w fun r w' => r = .returned (.tuple #[]) ∧ TK w' N P M so sc oo oc st ops bad ∧ Chg P w w' := by
 have HH : Hid (TK w N P M so sc oo oc st ops bad) := h
 have c12 := h.c12
 have f12 := trk_thaw h.box 12
 have hc := h.cap
 obtain ⟨i0, hi, hz0, hz1, hz2⟩ := info_parts infoKd
 obtain ⟨s, hse⟩ : ∃ s, s = st.length := ⟨_, rfl⟩
 have HSE : Hid (s = st.length) := hse
 rw [← hse] at c12 hc
 obtain ⟨hc1, hc2⟩ := hc
 unfold maxLen at hc2
 clear h hse
 go_enter Tryz.func95, Tryz.ntmps95
 go_wp2_with (at_builtin; refine wpList_append_nil rfl _ _ 41 rfl 69 i0 Tryz.underlying41 hi so s sc rfl hc1 g c rfl ?_)
 go_end0
 have hch : Chg P w (w.setCell ⟨P, 12, none⟩ (.slice so s sc)) := Chg.set _ _ _ _
 refine ⟨rfl, ?_, hch⟩
 have h2 := HH.out.set (a := .bool true) (b := .bool true) (c := .bool true) hch st.length (Nat.le_refl _) bad (by
  have := HH.out.box
  rw [HSE.out]
  simp [World.setCell, Array.getElem?_modify, this, trkC])
 rw [List.take_length] at h2
 exact h2
theorem own_block {w : World} {B : Nat} {t : TypeId} {k n cap : Nat} {o : Option Addr} {xs : List Value} (h : w.ownsRow B t k (.slice o n cap) n xs) (g : Nat) (e : (Value.slice o n cap).ownBlock = some g) : o = some ⟨g, 0, none⟩ ∧ ∃ cur, w.heap[g]? = some (.cells cur t (0, 0)) := by
 rcases h.2 with ⟨h1, _⟩ | ⟨g', c, cur, h1, _, h3, _⟩
 ·rw [h1] at e
  simp [Value.ownBlock] at e
 ·rw [h1] at e
  simp only [Value.ownBlock, Option.some.injEq] at e
  simp only [Value.slice.injEq] at h1
  rw [h1.1, ← e]
  exact ⟨rfl, cur, h3⟩
theorem TK.pushed {w w3 : World} {N P : Nat} {M : Nat → Value} {so : Option Addr} {sc : Nat} {oo : Option Addr} {oc : Nat} {st new : List Int} {ops : List BlkD} {bad : Bool} {g cap : Nat} (h : TK w N P M so sc oo oc st ops bad)
  (hown : w3.ownsRow N 69 1 (.slice (some ⟨g, 0, none⟩) (st.length + new.length) cap) (st.length + new.length) (st.map (Value.int .u8) ++ new.map (Value.int .u8))) (hgrow : w.grownBy w3 (Value.slice so st.length sc).ownBlock) (hat : (Value.slice so st.length sc).ownBlock = some g ∨ g = w.heap.size) :
  w3.heap[P]? = some (.cells (trkC M (.slice so st.length sc) (.slice oo ops.length oc) (.bool bad)) 110 (0, 0)) ∧ TK (w3.setCell ⟨P, 12, none⟩ (.slice (some ⟨g, 0, none⟩) (st.length + new.length) cap)) N P M (some ⟨g, 0, none⟩) cap oo oc (st ++ new) ops bad ∧ TF P so oo w (some ⟨g, 0, none⟩) oo (w3.setCell ⟨P, 12, none⟩ (.slice (some ⟨g, 0, none⟩) (st.length + new.length) cap)) := by
 have hP3 : w3.heap[P]? = some (.cells (trkC M (.slice so st.length sc) (.slice oo ops.length oc) (.bool bad)) 110 (0, 0)) := by
  rw [hgrow.block P h.lt (fun e => h.stk_ne e.symm)]
  exact h.box
 have hc : Chg P w3 (w3.setCell ⟨P, 12, none⟩ (.slice (some ⟨g, 0, none⟩) (st.length + new.length) cap)) := Chg.set _ _ _ _
 have hgt : ∃ cur, w3.heap[g]? = some (.cells cur 69 (0, 0)) := (own_block hown g rfl).2
 have hgP : (Value.slice (some ⟨g, 0, none⟩) (st.length + new.length) cap).ownBlock ≠ some P := by
  intro e
  simp only [Value.ownBlock, Option.some.injEq] at e
  obtain ⟨cur, hg⟩ := hgt
  rw [e, hP3] at hg
  simp only [Option.some.injEq, Obj.cells.injEq] at hg
  exact absurd hg.2.1 (by decide)
 have hoK : w3.ownsRow N 107 4 (.slice oo ops.length oc) ops.length (ops.flatMap BlkD.cells) := by
  refine h.opn.kept hgrow ?_
  rcases he : (Value.slice oo ops.length oc).ownBlock with _ | j
  ·exact Or.inl rfl
  ·refine Or.inr fun e => ?_
   obtain ⟨_, c1, h1⟩ := own_block h.opn j he
   obtain ⟨_, c2, h2⟩ := own_block h.stk j e.symm
   rw [h1] at h2
   simp only [Option.some.injEq, Obj.cells.injEq] at h2
   exact absurd h2.2.1 (by decide)
 have htf : TF P so oo w (some ⟨g, 0, none⟩) oo (w3.setCell ⟨P, 12, none⟩ (.slice (some ⟨g, 0, none⟩) (st.length + new.length) cap)) := by
  refine ⟨hc.os.trans hgrow.os, hc.tape.trans hgrow.tape, hc.output.trans hgrow.output, Nat.le_trans hgrow.size hc.size, fun k h1 h2 h3 h4 => ?_, ?_, Or.inl rfl⟩
  ·rw [hc.block k (Nat.lt_of_lt_of_le h1 hgrow.size) h2, hgrow.block k h1 (fun e => ?_)]
   have := (own_block h.stk k e.symm).1
   exact h3 _ this rfl
  ·rcases hat with e | e
   ·exact Or.inl (own_block h.stk g e).1.symm
   ·exact Or.inr ⟨g, rfl, by omega⟩
 refine ⟨hP3, ⟨?_, ?_, own_chg hoK hc h.opn_ne, fun x hx => ⟨(h.kin x hx).1.tf htf (h.kin x hx).2, (h.kin x hx).2.tf (h.kin x hx).1 htf⟩, h.np⟩, htf⟩
 ·rw [List.length_append]
  simp [World.setCell, Array.getElem?_modify, hP3, trkC]
 ·rw [List.length_append, List.map_append]
  exact own_chg hown hc hgP
theorem vgive_yes (N P : Nat) (M : Nat → Value) (so : Option Addr) (sc : Nat) (oo : Option Addr) (oc : Nat) (st : List Int) (ops : List BlkD) (bad : Bool) (b f c : Nat) (new : List Int) (w : World) (h : TK w N P M so sc oo oc st ops bad) (hnew : ∀ j (hj : j < new.length), w.cell? ⟨b, f + j, none⟩ = some (.int .u8 new[j])) (h0 : 0 < new.length) (hs : st.length + new.length ≤ 1099511627776) (hN : N ≤ w.heap.size) :
  Calls Tryz.prog 95 #[.pointer (some ⟨P, 0, none⟩), .slice (some ⟨b, f, none⟩) new.length c] w fun r w' => r = .returned (.tuple #[]) ∧ ∃ so' sc', TK w' N P M so' sc' oo oc (st ++ new) ops bad ∧ TF P so oo w so' oo w' := by
 have HH : Hid (TK w N P M so sc oo oc st ops bad) := h
 have HN : Hid (∀ j u, (new.map (Value.int .u8))[j]? = some u → w.cell? ((⟨b, f, none⟩ : Addr).add j) = some u) := by
  intro j u hj
  have hadd : (⟨b, f, none⟩ : Addr).add j = ⟨b, f + j, none⟩ := by unfold Addr.add; split <;> simp_all
  rw [List.getElem?_map] at hj
  rcases hl : new[j]? with _ | x
  ·rw [hl] at hj; cases hj
  ·rw [hl] at hj
   obtain ⟨hlt, hx⟩ := List.getElem?_eq_some_iff.1 hl
   rw [hadd, hnew j hlt, hx]
   exact hj
 have HS : Hid (type_of% h.stk) := h.stk
 have c12 := h.c12
 obtain ⟨i0, hi, hz0, hz1, hz2⟩ := info_parts infoKd
 obtain ⟨m, hm⟩ : ∃ m, m = new.length := ⟨_, rfl⟩
 obtain ⟨s, hse⟩ : ∃ s, s = st.length := ⟨_, rfl⟩
 have HM : Hid (m = new.length ∧ s = st.length) := ⟨hm, hse⟩
 rw [← hse] at c12 HS hs
 rw [← hm] at h0 hs ⊢
 clear h hnew hm hse
 go_enter Tryz.func95, Tryz.ntmps95
 go_wp2_with (at_builtin; refine wpList_append_lies _ rfl _ _ 41 rfl N 69 i0 (.int .u8 0) 1 1 Tryz.underlying41 hi hz0 hz1 hz2 rfl (by omega) _ s _ rfl HS.out ⟨b, f, none⟩ m c (new.map (Value.int .u8)) rfl (by rw [List.length_map, Nat.mul_one]; exact HM.out.1.symm) HN.out (by intro u hu; obtain ⟨x, _, rfl⟩ := List.mem_map.1 hu; rfl) h0 (by unfold maxLen; omega) (by omega) hN w.heap.size rfl ?_)
 intro g cap w3 hown hgrow hat _
 have hq := HH.out.pushed (w3 := w3) (new := new) (g := g) (cap := cap) (by rw [← HM.out.1, ← HM.out.2]; exact hown) (by rw [← HM.out.2]; exact hgrow) (by rw [← HM.out.2]; exact hat)
 rw [← HM.out.1, ← HM.out.2] at hq
 obtain ⟨hq1, hq2, hq3⟩ := hq
 have d12 := trk_cell hq1 12 rfl
 have df := trk_thaw hq1 12
 have HQ : Hid (type_of% (And.intro hq2 hq3)) := ⟨hq2, hq3⟩
 clear hown hgrow hat hq1 hq2 hq3 c12
 go_wp2
 go_end0
 exact ⟨rfl, _, _, HQ.out.1, HQ.out.2⟩
theorem vgive (N P : Nat) (M : Nat → Value) (so : Option Addr) (sc : Nat) (oo : Option Addr) (oc : Nat) (st : List Int) (ops : List BlkD) (bad : Bool) (d : NumD) (w : World) (h : TK w N P M so sc oo oc st ops bad) (hd : d.ok .u8 w) (hdn : d.n ≤ 1000) (hs : st.length ≤ 1099511620000) (hN : N ≤ w.heap.size) :
  Calls Tryz.prog 95 #[.pointer (some ⟨P, 0, none⟩), .slice d.o d.n d.cap] w fun r w' => r = .returned (.tuple #[]) ∧ ∃ so' sc', TK w' N P M so' sc' oo oc (st ++ d.xs) ops bad ∧ TF P so oo w so' oo w' := by
 have hl := hd.len
 rcases Nat.eq_zero_or_pos d.n with hz | hz
 ·have hx : d.xs = [] := by rw [hz] at hl; exact List.length_eq_zero_iff.1 hl
  rw [hz, hx, List.append_nil]
  refine (vgive_no N P M so sc oo oc st ops bad d.o d.cap w h).mono ?_
  rintro r w' ⟨rfl, h1, h2⟩
  exact ⟨rfl, so, sc, h1, TF.chg _ _ h2⟩
 ·rcases hd.at1 (Nat.le_refl _) with hx | ⟨b, f, h1, h2, h3⟩
  ·rw [hx] at hl
   simp at hl
   omega
  ·rw [h1, ← hl]
   exact vgive_yes N P M so sc oo oc st ops bad b f d.cap d.xs w h (fun j hj => by
    have := h3 j hj 0 (by omega)
    rw [Nat.mul_one, Nat.add_zero] at this
    rw [this]
    rfl) (by omega) (by omega) hN
end Go.Proofs.YtlfihndbnaaodaaGreatDoor
namespace Go.Proofs.YtlfihndbnaaodaaGreatDoor
open Go.RowKit
set_option linter.unusedVariables false
def finK (st : List Int) (b : BlkD) (bad : Bool) : List Int × Bool := ((tks b b.ks.xs.reverse (st, bad)).1, (tks b b.ks.xs.reverse (st, bad)).2 || !((((tks b b.ks.xs.reverse (st, bad)).1.length : Nat) : Int) == (b.base : Int)))
theorem offRow.rec {P : Nat} {so oo : Option Addr} {d : NumD} (h : offRow P so oo d) : d.n = 0 ∨ ∃ a : Addr, d.o = some a ∧ a.block ≠ P := by
 rcases h with h | ⟨a, h1, h2, _⟩
 ·exact Or.inl h
 ·exact Or.inr ⟨a, h1, h2⟩
theorem vfinish (N P : Nat) (M : Nat → Value) (so : Option Addr) (sc : Nat) (g oc : Nat) (st : List Int) (ops : List BlkD) (b : BlkD) (bad : Bool) (w : World) (h : TK w N P M so sc (some ⟨g, 0, none⟩) oc st (ops ++ [b]) bad) (hkn : b.ks.n ≤ 1000) (hs : st.length ≤ 1099511627776) (hb : b.base ≤ 1099511627776) :
  Calls Tryz.prog 133 #[.pointer (some ⟨P, 0, none⟩)] w fun r w' => r = .returned (.tuple #[]) ∧ TK w' N P M so sc (some ⟨g, 0, none⟩) oc (finK st b bad).1 (ops ++ [b]) (finK st b bad).2 ∧ Chg P w w' := by
 obtain ⟨g', hg, _, _, hc1, hc2, hcs⟩ := h.inner
 cases hg
 have i1 : w.cell? ⟨g, ops.length * 4 + 1, none⟩ = some (.slice b.ks.o b.ks.n b.ks.cap) := hcs 1 (by omega)
 have hk := h.kin b (by simp)
 have HTA : Hid (∀ n, Calls Tryz.prog 94 #[.pointer (some ⟨P, 0, none⟩), .slice b.ks.o b.ks.n b.ks.cap] (w.drewN n) fun r w' => r = .returned (.tuple #[]) ∧ TK w' N P M so sc (some ⟨g, 0, none⟩) oc (tks b b.ks.xs.reverse (st, bad)).1 (ops ++ [b]) (tks b b.ks.xs.reverse (st, bad)).2 ∧ Chg P (w.drewN n) w') := fun n => vtakeAll N P M so sc g oc st ops b bad b.ks _ (h.below (below_dN n)) (hk.1.below (below_dN n)) hk.2.rec hkn hs hb
 have HI : Hid (type_of% (vinner N P M so sc g oc st ops b bad w h)) := vinner N P M so sc g oc st ops b bad w h
 have hl2 := tks_len b b.ks.xs.reverse (st, bad)
 unfold finK
 generalize (tks b b.ks.xs.reverse (st, bad)).1 = st2 at *
 generalize (tks b b.ks.xs.reverse (st, bad)).2 = bad2 at *
 clear hcs hc1 hc2 hk h
 go_enter Tryz.func133, Tryz.ntmps133
 go_wp2_with fail
 refine HI.out.mono ?_
 rintro r w1 ⟨rfl, n, rfl⟩
 have j1 : (w.drewN n).cell? ⟨g, ops.length * 4 + 1, none⟩ = some (.slice b.ks.o b.ks.n b.ks.cap) := i1
 have HC0 : Hid (Chg P w (w.drewN n)) := Chg.of_below (below_dN _)
 have HTB : Hid (type_of% (HTA.out n)) := HTA.out n
 generalize w.drewN n = w1 at j1 HC0 HTB
 clear i1 HTA HI
 go_wp2_with fail
 refine HTB.out.mono ?_
 rintro r w2 ⟨rfl, h2, hc⟩
 have HC2 : Hid (Chg P w w2) := HC0.out.trans hc
 have H2 : Hid (TK w2 N P M so sc (some ⟨g, 0, none⟩) oc st2 (ops ++ [b]) bad2) := h2
 have c12 := h2.c12
 obtain ⟨g', hg, _, _, _, _, hcs⟩ := h2.inner
 cases hg
 have i2 : w2.cell? ⟨g, ops.length * 4 + 2, none⟩ = some (.int .i64 (b.base : Int)) := hcs 2 (by omega)
 clear hcs h2 hc HTB HC0 j1
 have HNE : Hid (∀ w', Below w2.heap.size w2 w' → Calls Tryz.prog 52 #[.pointer (some ⟨P, 0, none⟩), .bool ((st2.length : Int) == (b.base : Int))] w' fun r w'' => r = .returned (.tuple #[]) ∧ TK w'' N P M so sc (some ⟨g, 0, none⟩) oc st2 (ops ++ [b]) (bad2 || !((st2.length : Int) == (b.base : Int))) ∧ Chg P w' w'') := fun w' b' => vneed N P M so sc _ oc st2 (ops ++ [b]) bad2 _ w' (H2.out.below b')
 obtain ⟨s, hse⟩ : ∃ s, s = st2.length := ⟨_, rfl⟩
 rw [← hse] at c12 HNE
 have HSE : Hid (s = st2.length) := hse
 have hsb : s ≤ 1099511627776 := by rw [hse]; exact Nat.le_trans hl2 hs
 clear hse hl2 hs
 go_wp2_with fail
 go_region_held3 (fun w' => w'.cell? ⟨P, 12, none⟩ = some (.slice so s sc) ∧ w'.cell? ⟨g, ops.length * 4 + 2, none⟩ = some (.int .i64 (b.base : Int)))
  (first | exact ⟨c12, i2⟩ | exact ⟨k12, k2⟩ | go_keep)
  ((go_at_call 52; (fail_if_success (have := HT1)); refine (HNE.out _ bch).mono ?_; rintro r w3 ⟨rfl, h3, hc3⟩; have HT1 : Hid True := trivial; have H3 : Hid (type_of% h3) := h3; have HC3 : Hid (Chg P w w3) := (HC2.out.trans (Chg.of_below bch)).trans hc3; have k12 : w3.cell? ⟨P, 12, none⟩ = some (.slice so s sc) := (by have := H3.out.c12; rw [← HSE.out] at this; exact this); have k2 : w3.cell? ⟨g, ops.length * 4 + 2, none⟩ = some (.int .i64 (b.base : Int)) := (by obtain ⟨g', hg, _, _, _, _, hcs⟩ := H3.out.inner; cases hg; exact hcs 2 (by omega)); clear h3 hc3))
 all_goals
  go_wp2
  go_end0
  exact ⟨rfl, by rw [← HSE.out]; exact H3.out, HC3.out⟩
end Go.Proofs.YtlfihndbnaaodaaGreatDoor
namespace Go.Proofs.YtlfihndbnaaodaaGreatDoor
open Go.RowKit
set_option linter.unusedVariables false
def chooseK (st : List Int) (b : BlkD) (bad : Bool) : List Int × Bool :=
 let r1 := takeK 127 st b bad
 let r2 := takeK 0 r1.2.1 b r1.2.2
 let r3 := takeK r2.1 r2.2.1 b r2.2.2
 (r3.2.1 ++ [r3.1], r3.2.2)
theorem TF.of_below {P : Nat} {w w1 : World} (so oo : Option Addr) (h : Below w.heap.size w w1) : TF P so oo w so oo w1 := TF.chg so oo (Chg.of_below h)
theorem vchoose (N P : Nat) (M : Nat → Value) (so : Option Addr) (sc : Nat) (g oc : Nat) (st : List Int) (ops : List BlkD) (b : BlkD) (bad : Bool) (w : World) (h : TK w N P M so sc (some ⟨g, 0, none⟩) oc st (ops ++ [b]) bad) (hs : st.length ≤ 1099511620000) (hb : b.base ≤ 1099511627776) :
  Calls Tryz.prog 90 #[.pointer (some ⟨P, 0, none⟩)] w fun r w' => r = .returned (.tuple #[]) ∧ ∃ so' sc', TK w' N P M so' sc' (some ⟨g, 0, none⟩) oc (chooseK st b bad).1 (ops ++ [b]) (chooseK st b bad).2 ∧ TF P so (some ⟨g, 0, none⟩) w so' (some ⟨g, 0, none⟩) w' := by
 have HA : Hid (type_of% (vtake N P M so sc g oc st ops b bad 127 w h (by omega) hb)) := vtake N P M so sc g oc st ops b bad 127 w h (by omega) hb
 have hN : N ≤ w.heap.size := Nat.le_trans h.np (Nat.le_of_lt h.lt)
 unfold chooseK
 dsimp only
 have l1 := takeK_len 127 st b bad
 generalize takeK 127 st b bad = r1 at *
 obtain ⟨k1, s1, b1⟩ := r1
 dsimp only at *
 have l2 := takeK_len 0 s1 b b1
 have HV2 : Hid (∀ w', TK w' N P M so sc (some ⟨g, 0, none⟩) oc s1 (ops ++ [b]) b1 → Calls Tryz.prog 89 #[.pointer (some ⟨P, 0, none⟩), .int .u8 0] w' fun r w'' => r = .returned (.int .u8 (takeK 0 s1 b b1).1) ∧ TK w'' N P M so sc (some ⟨g, 0, none⟩) oc (takeK 0 s1 b b1).2.1 (ops ++ [b]) (takeK 0 s1 b b1).2.2 ∧ Chg P w' w'') := fun w' h' => vtake N P M so sc g oc s1 ops b b1 0 w' h' (by omega) hb
 generalize takeK 0 s1 b b1 = r2 at *
 obtain ⟨k2, s2, b2⟩ := r2
 dsimp only at *
 have l3 := takeK_len k2 s2 b b2
 have HV3 : Hid (∀ w', TK w' N P M so sc (some ⟨g, 0, none⟩) oc s2 (ops ++ [b]) b2 → Calls Tryz.prog 89 #[.pointer (some ⟨P, 0, none⟩), .int .u8 k2] w' fun r w'' => r = .returned (.int .u8 (takeK k2 s2 b b2).1) ∧ TK w'' N P M so sc (some ⟨g, 0, none⟩) oc (takeK k2 s2 b b2).2.1 (ops ++ [b]) (takeK k2 s2 b b2).2.2 ∧ Chg P w' w'') := fun w' h' => vtake N P M so sc g oc s2 ops b b2 k2 w' h' (by omega) hb
 generalize takeK k2 s2 b b2 = r3 at *
 obtain ⟨k3, s3, b3⟩ := r3
 dsimp only at *
 have HL3 : Hid (s3.length ≤ 1099511620000 ∧ N ≤ w.heap.size) := ⟨by omega, hN⟩
 clear h l1 l2 l3 hs hb hN
 go_enter Tryz.func90, Tryz.ntmps90
 go_wp2_with fail
 refine HA.out.mono ?_
 rintro r w1 ⟨rfl, h1, c1⟩
 have HT1 : Hid (type_of% h1) := h1
 have HC1 : Hid (type_of% c1) := c1
 clear h1 c1 HA
 go_wp2_with fail
 refine (HV2.out w1 HT1.out).mono ?_
 rintro r w2 ⟨rfl, h2, c2⟩
 have HT2 : Hid (type_of% h2) := h2
 have HC2 : Hid (Chg P w w2) := HC1.out.trans c2
 clear h2 c2 HV2
 go_wp2_with fail
 refine (HV3.out w2 HT2.out).mono ?_
 rintro r w3 ⟨rfl, h3, c3⟩
 have HT3 : Hid (type_of% h3) := h3
 have HC3 : Hid (Chg P w w3) := HC2.out.trans c3
 have hb4 : Below w3.heap.size w3 (w3.alloc (.cells #[.int .u8 k3] 69)) := (Below.refl _ _).alloc (Nat.le_refl _) _
 have HG : Hid (type_of% (vgive_yes N P M so sc (some ⟨g, 0, none⟩) oc s3 (ops ++ [b]) b3 w3.heap.size 0 1 [k3] (w3.alloc (.cells #[.int .u8 k3] 69)) (HT3.out.below hb4) (fun j hj => by
   obtain rfl : j = 0 := by simpa using hj
   exact cell_one_new w3 (.int .u8 k3) 69 0 _ rfl) (by simp) (by have := HL3.out.1; simp; omega) (Nat.le_trans HL3.out.2 (Nat.le_trans HC3.out.size hb4.size)))) := vgive_yes N P M so sc (some ⟨g, 0, none⟩) oc s3 (ops ++ [b]) b3 w3.heap.size 0 1 [k3] (w3.alloc (.cells #[.int .u8 k3] 69)) (HT3.out.below hb4) (fun j hj => by
   obtain rfl : j = 0 := by simpa using hj
   exact cell_one_new w3 (.int .u8 k3) 69 0 _ rfl) (by simp) (by have := HL3.out.1; simp; omega) (Nat.le_trans HL3.out.2 (Nat.le_trans HC3.out.size hb4.size))
 have HF3 : Hid (TF P so (some ⟨g, 0, none⟩) w so (some ⟨g, 0, none⟩) (w3.alloc (.cells #[.int .u8 k3] 69))) := (TF.chg _ _ HC3.out).trans (TF.of_below _ _ hb4)
 clear h3 c3 HV3 hb4 HC3
 go_wp2_with fail
 refine HG.out.mono ?_
 rintro r w4 ⟨rfl, so', sc', h4, f4⟩
 have HT4 : Hid (type_of% h4) := h4
 have HF4 : Hid (TF P so (some ⟨g, 0, none⟩) w so' (some ⟨g, 0, none⟩) w4) := HF3.out.trans f4
 clear h4 f4 HG
 go_wp2
 go_end0
 exact ⟨rfl, so', sc', HT4.out, HF4.out⟩
theorem TK.mark {w : World} {N P : Nat} {M : Nat → Value} {so : Option Addr} {sc g oc : Nat} {st : List Int} {ops : List BlkD} {b b' : BlkD} {bad : Bool} (h : TK w N P M so sc (some ⟨g, 0, none⟩) oc st (ops ++ [b]) bad) (r : Nat) (hr : r < 4) (v : Value) (hks : b'.ks = b.ks) (hc : b'.cells = b.cells.set r v) :
  TK (w.setCell ⟨g, ops.length * 4 + r, none⟩ v) N P M so sc (some ⟨g, 0, none⟩) oc st (ops ++ [b']) bad ∧ Chg g w (w.setCell ⟨g, ops.length * 4 + r, none⟩ v) := by
 have hch : Chg g w (w.setCell ⟨g, ops.length * 4 + r, none⟩ v) := Chg.set _ _ _ _
 have hgP : g ≠ P := fun e => h.opn_ne (by rw [e]; rfl)
 obtain ⟨_, cg, hgc⟩ := own_block h.opn g rfl
 have hl : (ops ++ [b']).length = (ops ++ [b]).length := by simp
 refine ⟨⟨?_, own_chg h.stk hch ?_, ?_, fun x hx => ?_, h.np⟩, hch⟩
 ·rw [hl, hch.block P h.lt (fun e => hgP e.symm)]
  exact h.box
 ·intro e
  obtain ⟨_, c2, h2⟩ := own_block h.stk g e
  rw [hgc] at h2
  simp only [Option.some.injEq, Obj.cells.injEq] at h2
  exact absurd h2.2.1 (by decide)
 ·have h2 := h.opn.stored (ops.length * 4 + r) v
  have e : (ops ++ [b']).flatMap BlkD.cells = ((ops ++ [b]).flatMap BlkD.cells).set (ops.length * 4 + r) v := by
   have hlen : (ops.flatMap BlkD.cells).length = ops.length * 4 := by
    rw [List.length_flatMap]
    have : (ops.map fun a => a.cells.length) = List.replicate ops.length 4 := List.eq_replicate_iff.2 ⟨by simp, fun x hx => by obtain ⟨y, _, rfl⟩ := List.mem_map.1 hx; rfl⟩
    rw [this, List.sum_replicate_nat]
   rw [List.flatMap_append, List.flatMap_append, List.set_append_right _ _ (by rw [hlen]; omega), hlen]
   congr 1
   rw [show ops.length * 4 + r - ops.length * 4 = r by omega]
   simp [hc]
  rw [e, hl]
  exact h2.1
 ·rw [List.mem_append, List.mem_singleton] at hx
  have hk : x.ks.ok .u8 w ∧ offRow P so (some ⟨g, 0, none⟩) x.ks := by
   rcases hx with hx | rfl
   ·exact h.kin x (by simp [hx])
   ·rw [hks]; exact h.kin b (by simp)
  refine ⟨hk.1.chg hch ?_, hk.2⟩
  rcases hk.2 with h0 | ⟨a, e, _, _, h3⟩
  ·exact Or.inl h0
  ·exact Or.inr ⟨a, e, h3 _ rfl⟩
theorem TF.row {P g : Nat} {w w1 : World} (so : Option Addr) (c : Chg g w w1) : TF P so (some ⟨g, 0, none⟩) w so (some ⟨g, 0, none⟩) w1 := ⟨c.os, c.tape, c.output, c.size, fun k h1 _ _ h4 => c.block k h1 (h4 _ rfl), Or.inl rfl, Or.inl rfl⟩
theorem TK.thaw {w : World} {N P : Nat} {M : Nat → Value} {so : Option Addr} {sc g oc : Nat} {st : List Int} {ops : List BlkD} {bad : Bool} (h : TK w N P M so sc (some ⟨g, 0, none⟩) oc st ops bad) (j : Nat) : w.frozen? ⟨g, j, none⟩ = false := h.opn.frozenAt j
theorem vdie (N P : Nat) (M : Nat → Value) (so : Option Addr) (sc : Nat) (g oc : Nat) (st : List Int) (ops : List BlkD) (b : BlkD) (bad : Bool) (w : World) (h : TK w N P M so sc (some ⟨g, 0, none⟩) oc st (ops ++ [b]) bad) (hb : b.base ≤ st.length) :
  Calls Tryz.prog 97 #[.pointer (some ⟨P, 0, none⟩)] w fun r w' => r = .returned (.tuple #[]) ∧ TK w' N P M so sc (some ⟨g, 0, none⟩) oc (st.take b.base) (ops ++ [{ b with dead := true }]) bad ∧ TF P so (some ⟨g, 0, none⟩) w so (some ⟨g, 0, none⟩) w' := by
 obtain ⟨g', hg, _, _, hc1, hc2, hcs⟩ := h.inner
 cases hg
 have i2 : w.cell? ⟨g, ops.length * 4 + 2, none⟩ = some (.int .i64 (b.base : Int)) := hcs 2 (by omega)
 have HI : Hid (type_of% (vinner N P M so sc g oc st ops b bad w h)) := vinner N P M so sc g oc st ops b bad w h
 have c12 := h.c12
 have f12 := trk_thaw h.box 12
 have hcp := h.cap
 have HH : Hid (type_of% h) := h
 obtain ⟨s, hse⟩ : ∃ s, s = st.length := ⟨_, rfl⟩
 rw [← hse] at c12 hcp hb
 have HSE : Hid (s = st.length) := hse
 obtain ⟨hcp1, hcp2⟩ := hcp
 unfold maxLen at hcp2
 clear hcs hc1 hc2 h hse
 go_enter Tryz.func97, Tryz.ntmps97
 go_wp2_with fail
 refine HI.out.mono ?_
 rintro r w1 ⟨rfl, n, rfl⟩
 have j2 : (w.drewN n).cell? ⟨g, ops.length * 4 + 2, none⟩ = some (.int .i64 (b.base : Int)) := i2
 have j12 : (w.drewN n).cell? ⟨P, 12, none⟩ = some (.slice so s sc) := c12
 have jf : (w.drewN n).frozen? ⟨P, 12, none⟩ = false := f12
 have HH1 : Hid (TK (w.drewN n) N P M so sc (some ⟨g, 0, none⟩) oc st (ops ++ [b]) bad) := HH.out.below (below_dN _)
 have HC0 : Hid (Chg P w (w.drewN n)) := Chg.of_below (below_dN _)
 generalize w.drewN n = w1 at j2 j12 jf HH1 HC0
 clear i2 c12 f12 HI HH
 have hch : Chg P w1 (w1.setCell ⟨P, 12, none⟩ (.slice so b.base sc)) := Chg.set _ _ _ _
 have hT := HH1.out.set (a := .bool true) (b := .bool true) (c := .bool true) hch b.base (by rw [← HSE.out]; exact hb) bad (by
  have := HH1.out.box
  simp [World.setCell, Array.getElem?_modify, this, trkC])
 have hT1 : TK (w1.setCell ⟨P, 12, none⟩ (.slice so b.base sc)).drew N P M so sc (some ⟨g, 0, none⟩) oc (st.take b.base) (ops ++ [b]) bad := hT.below (Below.refl _ _).drew
 have HC1 : Hid (Chg P w (w1.setCell ⟨P, 12, none⟩ (.slice so b.base sc)).drew) := (HC0.out.trans hch).drew
 obtain ⟨g', hg, _, _, _, _, hcs⟩ := hT1.inner
 cases hg
 have k3 : (w1.setCell ⟨P, 12, none⟩ (.slice so b.base sc)).drew.cell? ⟨g, ops.length * 4 + 3, none⟩ = some (.bool b.dead) := hcs 3 (by omega)
 have kf : (w1.setCell ⟨P, 12, none⟩ (.slice so b.base sc)).drew.frozen? ⟨g, ops.length * 4 + 3, none⟩ = false := hT1.thaw _
 have HM : Hid (type_of% (hT1.mark (b' := { b with dead := true }) 3 (by omega) (.bool true) rfl rfl)) := hT1.mark (b' := { b with dead := true }) 3 (by omega) (.bool true) rfl rfl
 clear hT hT1 hch hcs HH1 HC0
 go_wp2
 go_region
 generalize (w1.setCell ⟨P, 12, none⟩ (.slice so b.base sc)).drew = w2 at *
 clear j2 j12 jf
 go_wp2
 go_end0
 exact ⟨rfl, HM.out.1, (TF.chg _ _ HC1.out).trans (TF.row _ HM.out.2)⟩
theorem vturn (N P : Nat) (M : Nat → Value) (so : Option Addr) (sc : Nat) (g oc : Nat) (st : List Int) (ops : List BlkD) (b : BlkD) (bad : Bool) (w : World) (h : TK w N P M so sc (some ⟨g, 0, none⟩) oc st (ops ++ [b]) bad) (hkn : b.ks.n ≤ 1000) (hs : st.length ≤ 1099511627776) (hb : b.base ≤ 1099511627776) :
  Calls Tryz.prog 91 #[.pointer (some ⟨P, 0, none⟩)] w fun r w' => r = .returned (.tuple #[]) ∧ TK w' N P M so sc (some ⟨g, 0, none⟩) oc (finK st b bad).1 (ops ++ [{ b with op := 5, dead := false }]) (finK st b bad).2 ∧ TF P so (some ⟨g, 0, none⟩) w so (some ⟨g, 0, none⟩) w' := by
 have HF : Hid (type_of% (vfinish N P M so sc g oc st ops b bad w h hkn hs hb)) := vfinish N P M so sc g oc st ops b bad w h hkn hs hb
 generalize finK st b bad = q at *
 obtain ⟨s2, b2⟩ := q
 dsimp only at *
 clear h
 go_enter Tryz.func91, Tryz.ntmps91
 go_wp2_with fail
 refine HF.out.mono ?_
 rintro r w1 ⟨rfl, h1, c1⟩
 have HI : Hid (type_of% (vinner N P M so sc g oc s2 ops b b2 w1 h1)) := vinner N P M so sc g oc s2 ops b b2 w1 h1
 have HT : Hid (type_of% h1) := h1
 have HC : Hid (type_of% c1) := c1
 clear h1 c1 HF
 go_wp2_with fail
 refine HI.out.mono ?_
 rintro r w1b ⟨rfl, n, rfl⟩
 have hT : TK (w1.drewN n) N P M so sc (some ⟨g, 0, none⟩) oc s2 (ops ++ [b]) b2 := HT.out.below (below_dN _)
 have HC1 : Hid (Chg P w (w1.drewN n)) := HC.out.trans (Chg.of_below (below_dN _))
 generalize w1.drewN n = w2 at hT HC1
 obtain ⟨g', hg, _, _, _, _, hcs⟩ := hT.inner
 cases hg
 have k0 : w2.cell? ⟨g, ops.length * 4, none⟩ = some (.int .u8 b.op) := hcs 0 (by omega)
 have kf : w2.frozen? ⟨g, ops.length * 4, none⟩ = false := hT.thaw _
 have hm := hT.mark (b' := { b with op := 5 }) 0 (by omega) (.int .u8 5) rfl rfl
 obtain ⟨g', hg, _, _, _, _, hcs2⟩ := hm.1.inner
 cases hg
 have k3 : (w2.setCell ⟨g, ops.length * 4, none⟩ (.int .u8 5)).cell? ⟨g, ops.length * 4 + 3, none⟩ = some (.bool b.dead) := hcs2 3 (by omega)
 have kf3 : (w2.setCell ⟨g, ops.length * 4, none⟩ (.int .u8 5)).frozen? ⟨g, ops.length * 4 + 3, none⟩ = false := hm.1.thaw _
 have HM : Hid (type_of% (hm.1.mark (b' := { b with op := 5, dead := false }) 3 (by omega) (.bool false) rfl rfl)) := hm.1.mark (b' := { b with op := 5, dead := false }) 3 (by omega) (.bool false) rfl rfl
 have HM1 : Hid (Chg g w2 (w2.setCell ⟨g, ops.length * 4, none⟩ (.int .u8 5))) := hm.2
 clear hcs hcs2 hm hT HT HC HI
 go_wp2
 go_end0
 exact ⟨rfl, HM.out.1, (TF.chg _ _ HC1.out).trans (TF.row _ (HM1.out.trans HM.out.2))⟩
end Go.Proofs.YtlfihndbnaaodaaGreatDoor
