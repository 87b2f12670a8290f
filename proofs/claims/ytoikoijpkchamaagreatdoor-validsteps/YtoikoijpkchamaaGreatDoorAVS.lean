/-
 The law of the stack ahead of an instruction of numbers and behind it, for whatever is handed in.
 A call's contract in a world whose shape is known, what the row lists laid: it returns.
 The stack that is known ahead of an instruction of numbers in a sound body and that which is known behind it differ by what it takes and gives.
-/
import Derived.Test.YtoikoijpkchamaaGreatDoorAVZ4
import Derived.Handed
import Derived.Test.YtoikoijpkchamaaGreatDoorRows
import Derived.Test.YtoikoijpkchamaaGreatDoorTie
import Derived.Test.YtoikoijpkchamaaGreatDoorCards
import Derived.ProofKit
import Derived.OpenShut
import Derived.ShutString
import Derived.SizedLaws
import Derived.LaidMore
import Derived.Stop.Joined
import Derived.SevenTiedAt
import Derived.PinnedBridge
import Derived.Lib.LaidTab
import Derived.Lib.LaidU8T
import Derived.Below
import Derived.Stop.LaidErr
import Derived.Carry
import Derived.ChangeSame
set_option maxHeartbeats 1000000
set_option maxRecDepth 100000
namespace Go.Proofs.YtoikoijpkchamaaGreatDoor
open Go.RowKit
set_option linter.unusedVariables false
theorem validSteps_walk (m : ModD) (at' : Int) (ha : -9223372036854775808 ≤ at' ∧ at' ≤ 9223372036854775807) (k' : Int) (hk : -9223372036854775808 ≤ k' ∧ k' ≤ 9223372036854775807) (w : World) (hA : Amb w) (hX : MaxIn w) (hm : m.ok w) :
  Calls Tryz.prog 6 #[.agg (mcA m), .int .i64 at', .int .i64 k'] w fun r w' => r = .returned (.bool true) ∧ Below w.heap.size w w' := by
 have hg : 2 < w.heap.size := by have := hA.2.2; omega
 have hs : ∀ W, Below w.heap.size w W → Calls Tryz.prog 23 #[.agg #[.slice m.oT m.types.length m.cT, .slice m.oI m.imports.length m.cI, .slice m.oF m.funcs.length m.cF, .int .i64 m.table, .int .i64 m.pages, .int .i64 m.most, .slice m.oG m.globals.length m.cG, .slice m.oE m.exports.length m.cE, .int .i64 m.start, .slice m.oL m.elems.length m.cL, .slice m.oD m.data.length m.cD], .int .i64 at', .int .i64 k'] W fun r w' => r = .returned (.tuple #[.int .i64 (soundV m at' k').1, .int .i64 (soundV m at' k').2.1, .bool (soundV m at' k').2.2]) ∧ Below W.heap.size W w' := fun W b => vsound m at' k' W (hA.to (b.mono (by have := hA.2.2; omega))) (hm.below b) (Nat.lt_of_lt_of_le hg b.size) ha hk
 by_cases hz : modE m = 0 ∧ m.funcs.length ≠ 0
 ·have e : soundV m at' k' = (at' % (m.funcs.length : Int), k' % ((m.funcs[(at' % (m.funcs.length : Int)).toNat]!).b.length : Int), true) := if_pos hz
  have hc := (head_zero (mod_zero hz.1).1).1
  have sm := mod_small hm hc
  have gf := fair_of hm hc
  have a0 := Int.emod_nonneg at' (b := (m.funcs.length : Int)) (by omega)
  have a1 := Int.emod_lt_of_pos at' (b := (m.funcs.length : Int)) (by omega)
  obtain ⟨j, hj⟩ : ∃ j : Nat, at' % (m.funcs.length : Int) = (j : Int) := ⟨_, (Int.toNat_of_nonneg a0).symm⟩
  rw [hj, Int.toNat_natCast] at e
  rw [hj] at a1
  have hjl : j < m.funcs.length := by omega
  have hmem : m.funcs[j]! ∈ m.funcs := by rw [getElem!_pos m.funcs j hjl]; exact List.getElem_mem hjl
  have hn := (sm.2 _ hmem).1
  have hb := body_some hn
  have q0 := Int.emod_nonneg k' (b := ((m.funcs[j]!).b.length : Int)) (by omega)
  have q1 := Int.emod_lt_of_pos k' (b := ((m.funcs[j]!).b.length : Int)) (by omega)
  obtain ⟨q, hq⟩ : ∃ q : Nat, k' % ((m.funcs[j]!).b.length : Int) = (q : Int) := ⟨_, (Int.toNat_of_nonneg q0).symm⟩
  rw [hq] at e q1
  rw [e] at hs
  have hql : q < (m.funcs[j]!).b.length := by omega
  have hd := (hm.funcs.all _ hmem).2.2.1.1 _ (List.getElem_mem hql)
  obtain ⟨o, ho⟩ : ∃ o : Nat, ((m.funcs[j]!).b[q]).op = (o : Int) := ⟨_, (Int.toNat_of_nonneg hd.op0).symm⟩
  have ho1 := hd.op1
  have st := shapes_steps hm hz.1 hjl hb
  exact steps_sound m at' k' j q _ o w hA hX hg hm hjl gf.nF (RunI.len hn) (by omega) hql (by omega) rfl hz.1 (by
   have a := flat_at InsD.cells 4 (fun _ => rfl) (m.funcs[j]!).b q 0 hql (by omega)
   rw [← ho]
   exact a) ⟨st.1, fun s h1 h2 h3 => by
   rw [← ho] at h2 ⊢
   exact st.2 q hql s h1 h2 h3⟩ hs
 ·have e : soundV m at' k' = (0, 0, false) := if_neg hz
  rw [e] at hs
  exact steps_no m at' k' w hA hg hs
end Go.Proofs.YtoikoijpkchamaaGreatDoor
namespace Go.Proofs.YtoikoijpkchamaaGreatDoor
set_option linter.unusedVariables false
theorem handed_shaped {H : Type} {enc : TypeId × Value → H} {C : Checked} {os : Os} {f : FuncId} {fn : Func} {s : ChangeSpec} {apart fresh handsOn again : Bool} {X : World → Array Value → Prop}
  (hX : ∀ (w w' : World) (args : Array Value), w.heap = w'.heap → X w args → X w' args)
  (own : ownKnob C.prog.godebug = none) (started : os.Started) (noInit : C.prog.inits.idxOf? f = none) (hfn : C.prog.funcs[f]? = some fn)
  (witness : ∃ (w : World) (tape : Tape) (i : Input), w.os = os ∧ (w.forCall tape i).Shaped C.prog ∧ i.vars = [] ∧ Input.okWide C.prog (w.forCall tape i) .any w.heap.size f i ∧
   ((s.pre enc C.prog fn [] apart (w.forCall tape i).memory i.args ∧ X (w.forCall tape i).memory i.args) ∧ sizedMet enc C.prog fn (OpenSpec.ofChange s) apart (w.forCall tape i).memory i.args) ∧ ({} : Assume).holds C.prog (lone (Frame.enter C.prog f i.args .normal) [] (w.forCall tape i)))
  (contract : ∀ (W : World) (base : Nat) (args : Array Value) (ds gs : List (DataW H)) (before : List MemPlace),
   (∀ (j : Nat) t v, fn.params[j]? = some t → args[j]? = some v → Value.okWide C.prog W .any base t v) →
   DataW.Whole enc C.prog fn.params.toList s.vars apart W args.toList ds gs before →
   (DataW.weightsEach C.prog (fn.params.toList ++ s.plain.varTypes C.prog) (ds ++ gs)).all (· ≤ reachBytes) = true → X W args → W.ShapedOpen C.prog →
   Calls C.prog f args W fun e W' => ∃ v, e = .returned v ∧ s.post enc C.prog fn apart fresh handsOn again W args v W') :
  ReturnsInHanded {} C os f .any (fun w args => (s.pre enc C.prog fn [] apart w args ∧ X w args) ∧ sizedMet enc C.prog fn (OpenSpec.ofChange s) apart w args) (s.post enc C.prog fn apart fresh handsOn again) := by
 refine returnsInHanded_of_calls own started noInit witness fun w tape i _ hsh _ hok hpre _ => ?_
 obtain ⟨_, _, _, g, hg, _, _, _, _, hval⟩ := hok
 obtain rfl : g = fn := Option.some.inj (hg.symm.trans hfn)
 obtain ⟨⟨⟨ds, gs, before, hw, _⟩, hx⟩, hz⟩ := hpre
 refine (contract (w.forCall tape i) w.heap.size i.args ds gs before hval (DataW.Whole.of_heap (w' := w.forCall tape i) (by rfl) hw) (hz.weights hw) (hX _ _ _ (by rfl) hx) hsh).mono ?_
 rintro e W' ⟨v, rfl, hp⟩
 exact ChangeSpec.post_blind hp
end Go.Proofs.YtoikoijpkchamaaGreatDoor
namespace Go.Proofs.YtoikoijpkchamaaGreatDoor
open Go.ChangeShapes Go.WideShapes Go.ChangeAt Go.RowKit
open Go.ChangeMaps (open_string shut_string)
set_option linter.unusedVariables false
theorem own : ownKnob Tryz.prog.godebug = none := by kernel_rfl
def withTabs (w0 : World) : World :=
 { w0 with heap := (w0.heap.modify 3 fun
  | .cells _ t frozen => .cells (Lib.firstTab.map fun z => Value.int .u8 z).toArray t frozen
  | o => o).modify 2 fun
  | .cells _ t frozen => .cells (Lib.deBruijn64tab.map fun (z : Nat) => Value.int .u8 (z : Int)).toArray t frozen
  | o => o }
theorem door_met (os : Os) (args : Array Value) : laidMetH Tryz.prog Rows.validStepsRow.laid ((withTabs (World.doorLaid Tryz.prog 400 os)).forCall (fun _ _ => 0) ⟨#[], args, []⟩).memory :=
 laidMetH_of_parts3 (fuel := 8) (laidMet_of_run' 8 (by kernel_rfl) (by kernel_rfl)) (by kernel_rfl) (by kernel_rfl)
theorem tab_eq : (Rows.laid_math_bits_deBruijn64tab : DataW Unit) = Lib.tabData .u8 (Lib.deBruijn64tab.map fun (z : Nat) => (z : Int)) := by kernel_rfl
theorem tabs_of {W : World} (h : laidMetH Tryz.prog Rows.validStepsRow.laid W) : Amb W := by
 rw [MakeChecks.laidMetH_plain _ _ _ (by kernel_rfl)] at h
 have e1 : Rows.laid_unicode_utf8_first = Lib.firstData := Pinned.utf8First_eq
 have e2 : (Rows.laid_unicode_utf8_acceptRanges : DataW Unit) = Lib.acceptData := by kernel_rfl
 have r1 := Lib.laidMet.reads h (d := Rows.laid_unicode_utf8_first) (.tail _ (.tail _ (.tail _ (.head _))))
 have r2 := Lib.laidMet.reads h (d := Rows.laid_unicode_utf8_acceptRanges) (.tail _ (.tail _ (.head _)))
 rw [e1] at r1
 rw [e2] at r2
 have hU := utf8Tabs_of_readsT (U8Types.of196 vLays) ⟨by kernel_rfl, by kernel_rfl, by kernel_rfl, by kernel_rfl, by kernel_rfl, by kernel_rfl, by kernel_rfl⟩ r1 r2
 have h2 : laidMet Tryz.prog (("math/bits.deBruijn64tab", Lib.tabData .u8 (Lib.deBruijn64tab.map fun (z : Nat) => (z : Int))) :: [("unicode/utf8.acceptRanges", Rows.laid_unicode_utf8_acceptRanges), ("unicode/utf8.first", Rows.laid_unicode_utf8_first)]) W := by
  rw [← tab_eq]
  exact h.tail
 have h3 := Lib.tabIs_of_head (g := 2) (t := 275) (e := 5) (n := 64) (by kernel_rfl) (by kernel_rfl) (by kernel_rfl) (by kernel_rfl) (by kernel_rfl) (by kernel_rfl) h2
 have hT : TabIn W := by
  intro j hj
  have h4 := h3.cell (g := 2) (by kernel_rfl) j (by rw [List.length_map]; exact hj)
  rw [h4]
  have hl : Lib.deBruijn64tab.length = 64 := rfl
  simp [List.getD_eq_getElem?_getD, List.getElem?_eq_getElem (show j < Lib.deBruijn64tab.length by omega)]
 refine ⟨hT, hU, ?_⟩
 have hc := ((show Lib.Utf8Tabs 3 4 W from hU).2 0 (by omega)).1
 apply Nat.lt_of_not_le
 intro hle
 have : W.heap[4]? = none := Array.getElem?_eq_none hle
 simp [World.cell?, this] at hc
theorem laidOut : laidOutB Tryz.prog = true := by kernel_rfl
theorem lifted (os : Os) (started : os.Started) (H : Type) (enc : TypeId × Value → H) :
  ReturnsInHanded {} Tryz.checked os 6 .any (fun w args => (Rows.validStepsSpec.pre enc Tryz.prog Tryz.f6 [] false w args ∧ laidMetH Tryz.prog Rows.validStepsRow.laid w) ∧ sizedMet enc Tryz.prog Tryz.f6 (OpenSpec.ofChange Rows.validStepsSpec) false w args)
   (Rows.validStepsSpec.post enc Tryz.prog Tryz.f6 false true false false) := by
 refine handed_shaped (C := Tryz.checked) (X := fun w _ => laidMetH Tryz.prog Rows.validStepsRow.laid w) (fun _ _ _ hh h => h.of_heap hh) own started (by kernel_rfl) Tryz.func6
  (ChangeSpec.witness_shaped (enc := enc) (C := Tryz.checked) (os := os) (X := fun w _ => laidMetH Tryz.prog Rows.validStepsRow.laid w) false (withTabs (World.doorLaid Tryz.prog 400 os)) #[.agg #[.slice none 0 0, .slice none 0 0, .slice none 0 0, .int .i64 0, .int .i64 0, .int .i64 0, .slice none 0 0, .slice none 0 0, .int .i64 0, .slice none 0 0, .slice none 0 0], .int .i64 0, .int .i64 0] 8 rfl (World.shaped_of_RefB (by kernel_rfl) (by kernel_rfl)) (by kernel_rfl) (by kernel_rfl) (by kernel_rfl) (door_met os _)) ?_
 intro W base args ds gs before hval0 hW hsz0 hL hsh
 have hsz : (DataW.weightsEach Tryz.prog (Tryz.f6.params.toList ++ Rows.validStepsSpec.plain.varTypes Tryz.prog) (ds ++ gs)).all (· ≤ reachBytes) = true := hsz0
 have hval : ∀ (j : Nat) t v, Tryz.f6.params[j]? = some t → args[j]? = some v → Value.okWide Tryz.prog W .any base t v := hval0
 have hW' := hW
 obtain ⟨p, q, hA0, hV, rfl, hfz, hnd⟩ := hW
 have hA : DataW.TrodAll enc Tryz.prog W 0 (fun _ => true) true Tryz.f6.params.toList args.toList ds p := hA0
 rw [Tryz.params6] at hA hval hsz
 obtain ⟨v0, vs0, d0, ds0, p0, q0, hargs0, rfl, rfl, h0, r0⟩ := trodAll_cons hA
 obtain ⟨v1, vs1, d1, ds1, p1, q1, hargs1, rfl, rfl, h1, r1⟩ := trodAll_cons r0
 obtain ⟨v2, vs2, d2, ds2, p2, q2, hargs2, rfl, rfl, h2, r2⟩ := trodAll_cons r1
 obtain ⟨rfl, rfl, rfl⟩ := trodAll_nil r2
 obtain rfl : args = #[v0, v1, v2] := by cases args; simp_all
 obtain ⟨rfl, rfl⟩ := trodVars_none hV
 have h0k := h0
 have hlt0 : ∀ x ∈ p0, x.block < W.heap.size := fun x hx => hW'.lt x (by simp [hx])
 obtain ⟨m0, rfl, hm0⟩ := open_module (hval 0 30 v0 rfl rfl) h0
 obtain ⟨a1, rfl, rfl, rfl, w1⟩ := open_int Tryz.underlying3 (hval 1 3 v1 rfl rfl) h1
 obtain ⟨a2, rfl, rfl, rfl, w2⟩ := open_int Tryz.underlying3 (hval 2 3 v2 rfl rfl) h2
 clear hA0 hval0 hval hA
 simp only [List.append_nil] at hW'
 refine (validSteps_walk m0 a1 (bounds_i64 w1) a2 (bounds_i64 w2) W (tabs_of hL) (max_shaped hsh) hm0).mono fun e W' ⟨he, bel⟩ => ?_
 subst he
 exact ⟨_, rfl, _, _, _, [], _, [], hW', trodAll_mk1 (shut_bool Tryz.underlying4 _), (trodAll_cons_mk (Below.trod laidOut (by kernel_rfl) (of_decide_eq_true (by kernel_rfl)) h0k bel hlt0) (trodAll_cons_mk (shut_int Tryz.underlying3 w1) (trodAll_cons_mk (shut_int Tryz.underlying3 w2) trodAll_mk0))), rfl, bel.frame _, fun h => by cases h⟩
end Go.Proofs.YtoikoijpkchamaaGreatDoor
