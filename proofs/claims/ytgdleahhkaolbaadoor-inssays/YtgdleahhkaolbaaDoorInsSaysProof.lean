/-
  InsSays: whatever instruction is handed in, the program's own Check, Plain, Width and Write answer what the document's own answer. (Conditions: math/bits' table deBruijn64tab holds at the call what the program's text lays there; the card ties that to the text; internal/bytealg.MaxLen holds whatever number it holds.)
-/
import Derived.Test.YtgdleahhkaolbaaDoorInsSaysWalk
import Derived.Test.YtgdleahhkaolbaaDoorGOne
import Derived.Test.YtgdleahhkaolbaaDoorTie
import Derived.Test.YtgdleahhkaolbaaDoorCards
import Derived.Test.YtgdleahhkaolbaaDoorShaped
import Derived.ProofKit
import Derived.OpenShut
import Derived.ShutString
import Derived.SizedLaws
import Derived.LaidMore
import Derived.Stop.Joined
import Derived.SevenTiedAt
import Derived.Lib.LaidTab
import Derived.Below
import Derived.Carry
import Derived.ChangeSame
import Derived.ChangeSlices
namespace Go.Proofs.YtgdleahhkaolbaaDoor
open Go.ChangeShapes Go.WideShapes Go.ChangeAt Go.RowKit
open Go.ChangeMaps (open_string shut_string)
set_option linter.unusedVariables false

theorem own : ownKnob Tryd.prog.godebug = none := by kernel_rfl

/-- A world with the library's table in its place. -/
def withTab (w0 : World) : World :=
  { w0 with heap := w0.heap.modify 1 fun
    | .cells _ t frozen => .cells (Lib.deBruijn64tab.map fun (z : Nat) => Value.int .u8 (z : Int)).toArray t frozen
    | o => o }
theorem door_met (os : Os) (args : Array Value) : laidMetH Tryd.prog Rows.insSaysRow.laid ((withTab (World.doorLaid Tryd.prog 400 os)).forCall (fun _ _ => 0) ⟨#[], args, []⟩).memory :=
  laidMetH_of_parts3 (fuel := 8) (laidMet_of_run' 8 (by kernel_rfl) (by kernel_rfl)) (by kernel_rfl) (by kernel_rfl)
theorem tab_eq : (Rows.laid_math_bits_deBruijn64tab : DataW Unit) = Lib.tabData .u8 (Lib.deBruijn64tab.map fun (z : Nat) => (z : Int)) := by kernel_rfl
theorem tabs_of {W : World} (h : laidMetH Tryd.prog Rows.insSaysRow.laid W) : TabIn W := by
  rw [MakeChecks.laidMetH_plain _ _ _ (by kernel_rfl)] at h
  have h2 : laidMet Tryd.prog (("math/bits.deBruijn64tab", Lib.tabData .u8 (Lib.deBruijn64tab.map fun (z : Nat) => (z : Int))) :: []) W := by
    rw [← tab_eq]
    exact h
  have h3 := Lib.tabIs_of_head (g := 1) (t := 188) (e := 5) (n := 64) (by kernel_rfl) (by kernel_rfl) (by kernel_rfl) (by kernel_rfl) (by kernel_rfl) (by kernel_rfl) h2
  intro j hj
  have h4 := h3.cell (g := 1) (by kernel_rfl) j (by rw [List.length_map]; exact hj)
  rw [h4]
  have hl : Lib.deBruijn64tab.length = 64 := rfl
  simp [List.getD_eq_getElem?_getD, List.getElem?_eq_getElem (show j < Lib.deBruijn64tab.length by omega)]

theorem laidOut : laidOutB Tryd.prog = true := by kernel_rfl
theorem cells24 : Tryd.prog.cellsOf 24 = 4 := by kernel_rfl
theorem cells22 : Tryd.prog.cellsOf 22 = 1 := by kernel_rfl
theorem cells5 : Tryd.prog.cellsOf 5 = 1 := by kernel_rfl
theorem cells2 : Tryd.prog.cellsOf 2 = 1 := by kernel_rfl

theorem list4 {α : Type} : ∀ (l : List α), l.length = 4 → ∃ a b c d, l = [a, b, c, d]
  | [a, b, c, d], _ => ⟨a, b, c, d, rfl⟩
set_option maxHeartbeats 400000 in
set_option maxRecDepth 100000 in
theorem open_ins {H : Type} {enc : TypeId × Value → H} {W : World} {base : Nat} {v0 : Value} {d0 : DataW H} {p0 : List MemPlace} (hv : Value.okWide Tryd.prog W .any base 24 v0) (h0 : DataW.Trod enc Tryd.prog W 0 (fun _ => true) true 24 v0 d0 p0) :
    ∃ (op A B : Int) (o : Option Addr) (n cap : Nat) (xs : List Int), v0 = .agg #[.int .u8 op, .int .i64 A, .int .i64 B, .slice o n cap] ∧ (0 ≤ op ∧ op ≤ 255) ∧ (-9223372036854775808 ≤ A ∧ A ≤ 9223372036854775807) ∧ n ≤ cap ∧ cap ≤ maxLen ∧ LJ W o n xs ∧ (o = none → cap = 0) := by
  obtain ⟨cs, rfl, hcs⟩ := okWide_struct (P := Tryd.prog) (w := W) (r := .any) (base := base) (t := 24) (v := v0) Tryd.underlying24 hv
  rw [cells24] at hcs
  obtain ⟨l⟩ := cs
  obtain ⟨c0, c1, c2, c3, rfl⟩ := list4 l hcs
  obtain ⟨fuel, hf⟩ := h0
  obtain ⟨ys, m, _, hx, _, hyl, hall⟩ := DataW.trod_struct Tryd.underlying24 hf
  obtain ⟨y0, y1, y2, y3, rfl⟩ := list4 ys hyl
  have g0 := hall 0 _ rfl
  have g1 := hall 1 _ rfl
  have g2 := hall 2 _ rfl
  have g3 := hall 3 _ rfl
  simp [Value.cells, cells5, cells2, cells22] at g0 g1 g2 g3
  obtain ⟨op, e0, _, wo⟩ := DataW.trod_int Tryd.underlying5 g0
  obtain ⟨A, e1, _, wA⟩ := DataW.trod_int Tryd.underlying2 g1
  obtain ⟨B, e2, _, wB⟩ := DataW.trod_int Tryd.underlying2 g2
  simp only [List.cons.injEq, and_true] at e0 e1 e2
  subst e0 e1 e2
  have bo := bounds_u8 wo
  have bA := bounds_i64 wA
  rcases open_ints Tryd.underlying22 Tryd.underlying2 cells2 g3 with ⟨e3, _⟩ | ⟨ad, len, cap, zs, e3, _, hlc, hcm, hzl, _, hcell, _⟩
  · simp only [List.cons.injEq, and_true] at e3
    subst e3
    exact ⟨op, A, B, none, 0, 0, [], rfl, bo, bA, Nat.le_refl _, by unfold maxLen; omega, ⟨rfl, Or.inl rfl⟩, fun _ => rfl⟩
  · simp only [List.cons.injEq, and_true] at e3
    subst e3
    have hzlen : len ≤ zs.length := by
      rw [hzl]
      split <;> omega
    refine ⟨op, A, B, some ad, len, cap, zs.take len, rfl, bo, bA, hlc, hcm, ⟨by rw [List.length_take]; omega, ?_⟩, fun h => by cases h⟩
    by_cases hl0 : len = 0
    · exact Or.inl hl0
    · refine Or.inr ⟨ad, rfl, ?_, fun i hi => ?_⟩
      · have hc := hcell 0 (by omega)
        apply Nat.lt_of_not_le
        intro hle
        have : W.heap[(ad.add 0).block]? = none := by
          rw [add_block]
          exact Array.getElem?_eq_none hle
        simp [World.cell?, this] at hc
      · rw [hcell i (by omega), List.getD_eq_getElem?_getD, List.getD_eq_getElem?_getD, List.getElem?_take_of_lt hi]

set_option maxHeartbeats 400000 in
set_option maxRecDepth 100000 in
theorem lifted (os : Os) (started : os.Started) (H : Type) (enc : TypeId × Value → H) :
    ReturnsInHanded {} Tryd.checked os 3 .any (fun w args => (Rows.insSaysSpec.pre enc Tryd.prog Tryd.f3 [] false w args ∧ laidMetH Tryd.prog Rows.insSaysRow.laid w) ∧ sizedMet enc Tryd.prog Tryd.f3 (OpenSpec.ofChange Rows.insSaysSpec) false w args)
      (Rows.insSaysSpec.post enc Tryd.prog Tryd.f3 false true false false) := by
  refine handed_shaped (C := Tryd.checked) (X := fun w _ => laidMetH Tryd.prog Rows.insSaysRow.laid w) (fun _ _ _ hh h => h.of_heap hh) own started (by kernel_rfl) Tryd.func3
    (ChangeSpec.witness_shaped (enc := enc) (C := Tryd.checked) (os := os) (X := fun w _ => laidMetH Tryd.prog Rows.insSaysRow.laid w) false (withTab (World.doorLaid Tryd.prog 400 os)) #[.agg #[.int .u8 0, .int .i64 0, .int .i64 0, .slice none 0 0]] 8 rfl (World.shaped_of_RefB (by kernel_rfl) (by kernel_rfl)) (by kernel_rfl) (by kernel_rfl) (by kernel_rfl) (door_met os _)) ?_
  intro W base args ds gs before hval0 hW hsz0 hL hsh
  have hval : ∀ (j : Nat) t v, Tryd.f3.params[j]? = some t → args[j]? = some v → Value.okWide Tryd.prog W .any base t v := hval0
  have hW' := hW
  obtain ⟨p, q, hA0, hV, rfl, hfz, hnd⟩ := hW
  have hA : DataW.TrodAll enc Tryd.prog W 0 (fun _ => true) true Tryd.f3.params.toList args.toList ds p := hA0
  rw [Tryd.params3] at hA hval
  obtain ⟨v0, vs0, d0, ds0, p0, q0, hargs, rfl, rfl, h0, r0⟩ := trodAll_cons hA
  obtain ⟨rfl, rfl, rfl⟩ := trodAll_nil r0
  obtain rfl : args = #[v0] := by cases args; simp_all
  obtain ⟨rfl, rfl⟩ := trodVars_none hV
  have h0k := h0
  have hlt : ∀ x ∈ p0, x.block < W.heap.size := fun x hx => hW'.lt x (by simp [hx])
  obtain ⟨op, A, B, o, n, cap, xs, rfl, bo, bA, hlc, hcm, hLJ, hnil⟩ := open_ins (hval 0 24 v0 rfl rfl) h0
  clear hA0 hval0 h0 hval hA
  simp only [List.append_nil] at hW'
  refine (insSays_walk op A B o n cap xs bo.1 bo.2 bA hlc hcm hnil W (tabs_of hL) (max_shaped hsh) hLJ).mono fun e W' ⟨he, bel⟩ => ?_
  subst he
  exact ⟨_, rfl, _, _, _, [], _, [], hW', trodAll_mk1 (shut_bool Tryd.underlying4 _), trodAll_mk1 (Below.trod laidOut (by kernel_rfl) (of_decide_eq_true (by kernel_rfl)) h0k bel hlt), rfl, bel.frame _, fun h => by cases h⟩

theorem insSays_row : Rows.InsSaysSaid :=
  OpenClaim.holds_of_wide 3 Tryd.f3 rfl rfl rfl rfl rfl rfl rfl ⟨rfl, rfl, rfl, rfl, rfl⟩ rfl rfl rfl rfl rfl (by kernel_rfl) Tryd.func3 (by kernel_rfl)
    (of_decide_eq_true (by kernel_rfl)) (by unfold Func.isWrapper; first | (rw [if_pos (by decide +kernel)]; kernel_rfl) | (rw [if_neg (by decide +kernel)]; exact ⟨rfl, rfl⟩))
    (fun os started H enc _ => lifted os started H enc)

theorem insSays_holds : Rows.InsSaysCardSaid :=
  Claim7.holds_tied_plain_at .later [] [.data] true Rows.insSaysCard.stood.harness true
    insSays_row (fun _ h => by cases h) (by kernel_rfl) (fun _ h => by cases h) insSays_row_tie rfl ⟨rfl, rfl⟩ (by kernel_rfl) rfl
    (fun f fn hf hfn => by
      obtain rfl : f = 3 := Option.some.inj ((show Tryd.prog.funcNamed Rows.insSaysRow.func = some 3 by kernel_rfl).symm.trans hf) |>.symm
      obtain rfl : fn = Tryd.f3 := (Option.some.inj (Tryd.func3.symm.trans hfn)).symm
      exact ⟨by kernel_rfl, fun j t ht => by
        rw [Tryd.params3] at ht
        have hm : t ∈ [24] := by simpa using Array.mem_of_getElem? ht
        have hall : ([24].all fun u => !Tryd.prog.wantsStandIn u) = true := by kernel_rfl
        exact (show Tryd.prog.wantsStandIn t = false by simpa using List.all_eq_true.1 hall t hm)⟩)
    (by kernel_rfl)
#print axioms insSays_holds
end Go.Proofs.YtgdleahhkaolbaaDoor
