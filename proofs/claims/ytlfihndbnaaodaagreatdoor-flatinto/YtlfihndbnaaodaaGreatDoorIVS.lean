/-
 The law that no way leads into a block, for whatever is handed in.
 A call's contract in a world whose shape is known, what the row lists laid: it returns.
-/
import Derived.Test.YtlfihndbnaaodaaGreatDoorIWC
import Derived.Handed
import Derived.Test.YtlfihndbnaaodaaGreatDoorRows
namespace Go.Proofs.YtlfihndbnaaodaaGreatDoor
open Go.RowKit
set_option linter.unusedVariables false
theorem flatInto_walk (m : ModD) (at' : Int) (ha : -9223372036854775808 ≤ at' ∧ at' ≤ 9223372036854775807) (k' : Int) (hk : -9223372036854775808 ≤ k' ∧ k' ≤ 9223372036854775807) (w : World) (hA : Amb w) (hX : MaxIn w) (hm : m.ok w) :
  Calls Tryz.prog 7 #[.agg (mcA m), .int .i64 at', .int .i64 k'] w fun r w' => r = .returned (.bool true) ∧ Below w.heap.size w w' := by
 have hg : 1 < w.heap.size := by have := hA.2.2; omega
 obtain ⟨j, q, is, h1, h2⟩ := sound_says hm at' k'
 exact into_all m at' k' w hA hX hm hg j q is (fun W b => by
  have := vsound m at' k' W (hA.below b) (hm.below b) (Nat.lt_of_lt_of_le hg b.size) ha hk
  rw [h1] at this
  exact this) h2
end Go.Proofs.YtlfihndbnaaodaaGreatDoor
namespace Go.Proofs.YtlfihndbnaaodaaGreatDoor
set_option linter.unusedVariables false
theorem handed_shaped {H : Type} {enc : TypeId × Value → H} {C : Checked} {os : Os} {f : FuncId} {fn : Func} {s : ChangeSpec} {apart fresh handsOn again : Bool} {X : World → Array Value → Prop}
  (hX : ∀ (w w' : World) (args : Array Value), w.heap = w'.heap → X w args → X w' args)
  (own : ownKnob C.prog.godebug = none) (started : os.Started) (noInit : C.prog.inits.idxOf? f = none) (hfn : C.prog.funcs[f]? = some fn)
  (witness : ∃ (w : World) (tape : Tape) (i : Input), w.os = os ∧ (w.forCall tape i).Shaped C.prog ∧ i.vars = [] ∧ Input.okWide C.prog (w.forCall tape i) .any w.heap.size f i ∧
   ((s.pre enc C.prog fn [] apart (w.forCall tape i).memory i.args ∧ X (w.forCall tape i).memory i.args) ∧ sizedMet enc C.prog fn (OpenSpec.ofChange s) apart (w.forCall tape i).memory i.args) ∧ ({} : Assume).holds C.prog (lone (Frame.enter C.prog f i.args .normal) [] (w.forCall tape i)))
  (contract : ∀ (W : World) (base : Nat) (args : Array Value) (ds gs : List (DataW H)) (before : List MemPlace),
   (∀ (j : Nat) t v, fn.params[j]? = some t → args[j]? = some v → Value.okWide C.prog W .any base t v) →
   DataW.Whole enc C.prog fn.params.toList s.vars apart W args.toList ds gs before →
   (DataW.weightsEach C.prog (fn.params.toList ++ s.plain.varTypes C.prog) (ds ++ gs)).all (· ≤ reachBytes) = true → X W args → W.ShapedOpen C.prog →
   Calls C.prog f args W fun e W' => ∃ v, e = .returned v ∧ s.post enc C.prog fn apart fresh handsOn again W args v W') :
  ReturnsInHanded {} C os f .any (fun w args => (s.pre enc C.prog fn [] apart w args ∧ X w args) ∧ sizedMet enc C.prog fn (OpenSpec.ofChange s) apart w args) (s.post enc C.prog fn apart fresh handsOn again) := by
 refine returnsInHanded_of_calls own started noInit witness fun w tape i _ hsh _ hok hpre _ => ?_
 obtain ⟨_, _, _, g, hg, _, _, _, _, hval⟩ := hok
 obtain rfl : g = fn := Option.some.inj (hg.symm.trans hfn)
 obtain ⟨⟨⟨ds, gs, before, hw, _⟩, hx⟩, hz⟩ := hpre
 refine (contract (w.forCall tape i) w.heap.size i.args ds gs before hval (DataW.Whole.of_heap (w' := w.forCall tape i) (by rfl) hw) (hz.weights hw) (hX _ _ _ (by rfl) hx) hsh).mono ?_
 rintro e W' ⟨v, rfl, hp⟩
 exact ChangeSpec.post_blind hp
end Go.Proofs.YtlfihndbnaaodaaGreatDoor
