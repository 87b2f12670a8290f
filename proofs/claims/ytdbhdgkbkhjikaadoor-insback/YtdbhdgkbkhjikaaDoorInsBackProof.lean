/-
  InsBack: whatever instruction and text are handed in, an instruction that the program writes it reads as it was, whatever stands behind; one that it does not write it answers with Check's error and no text. (Conditions: math/bits' table deBruijn64tab holds at the call what the program's text lays there; the card ties that to the text.)
-/
import Derived.Test.YtdbhdgkbkhjikaaDoorInsBackWalk
import Derived.Test.YtdbhdgkbkhjikaaDoorLib64
import Derived.Test.YtdbhdgkbkhjikaaDoorTie
import Derived.Test.YtdbhdgkbkhjikaaDoorCards
import Derived.ProofKit
import Derived.OpenShut
import Derived.ShutString
import Derived.SizedLaws
import Derived.LaidMore
import Derived.Stop.Joined
import Derived.SevenTiedAt
import Derived.Lib.LaidTab
import Derived.Below
import Derived.Carry
import Derived.ChangeSame
import Derived.ChangeSlices
namespace Go.Proofs.YtdbhdgkbkhjikaaDoor
open Go.ChangeShapes Go.WideShapes Go.ChangeAt Go.RowKit
open Go.ChangeMaps (open_string shut_string)
set_option linter.unusedVariables false

theorem own : ownKnob Tryd.prog.godebug = none := by kernel_rfl

/-- A world with the library's table in its place. -/
def withTab (w0 : World) : World :=
  { w0 with heap := w0.heap.modify 1 fun
    | .cells _ t frozen => .cells (Lib.deBruijn64tab.map fun (z : Nat) => Value.int .u8 (z : Int)).toArray t frozen
    | o => o }
theorem door_met (os : Os) (args : Array Value) : laidMetH Tryd.prog Rows.insBackRow.laid ((withTab (World.doorLaid Tryd.prog 400 os)).forCall (fun _ _ => 0) ⟨#[], args, []⟩).memory :=
  laidMetH_of_parts3 (fuel := 8) (laidMet_of_run' 8 (by kernel_rfl) (by kernel_rfl)) (by kernel_rfl) (by kernel_rfl)
theorem tab_eq : (Rows.laid_math_bits_deBruijn64tab : DataW Unit) = Lib.tabData .u8 (Lib.deBruijn64tab.map fun (z : Nat) => (z : Int)) := by kernel_rfl
theorem tabs_of {W : World} (h : laidMetH Tryd.prog Rows.insBackRow.laid W) : TabIn W := by
  rw [MakeChecks.laidMetH_plain _ _ _ (by kernel_rfl)] at h
  have h2 : laidMet Tryd.prog (("math/bits.deBruijn64tab", Lib.tabData .u8 (Lib.deBruijn64tab.map fun (z : Nat) => (z : Int))) :: []) W := by
    rw [← tab_eq]
    exact h
  have h3 := Lib.tabIs_of_head (g := 1) (t := 129) (e := 5) (n := 64) (by kernel_rfl) (by kernel_rfl) (by kernel_rfl) (by kernel_rfl) (by kernel_rfl) (by kernel_rfl) h2
  intro j hj
  have h4 := h3.cell (g := 1) (by kernel_rfl) j (by rw [List.length_map]; exact hj)
  rw [h4]
  have hl : Lib.deBruijn64tab.length = 64 := rfl
  simp [List.getD_eq_getElem?_getD, List.getElem?_eq_getElem (show j < Lib.deBruijn64tab.length by omega)]

theorem laidOut : laidOutB Tryd.prog = true := by kernel_rfl
theorem cells24 : Tryd.prog.cellsOf 24 = 4 := by kernel_rfl
theorem cells22 : Tryd.prog.cellsOf 22 = 1 := by kernel_rfl
theorem cells5 : Tryd.prog.cellsOf 5 = 1 := by kernel_rfl
theorem cells2 : Tryd.prog.cellsOf 2 = 1 := by kernel_rfl

theorem list4 {α : Type} : ∀ (l : List α), l.length = 4 → ∃ a b c d, l = [a, b, c, d]
  | [a, b, c, d], _ => ⟨a, b, c, d, rfl⟩
set_option maxHeartbeats 400000 in
set_option maxRecDepth 100000 in
theorem open_ins {H : Type} {enc : TypeId × Value → H} {W : World} {base : Nat} {v0 : Value} {d0 : DataW H} {p0 : List MemPlace} (hv : Value.okWide Tryd.prog W .any base 24 v0) (h0 : DataW.Trod enc Tryd.prog W 0 (fun _ => true) true 24 v0 d0 p0) :
    ∃ (op A B : Int) (o : Option Addr) (n cap : Nat) (xs : List Int), v0 = .agg #[.int .u8 op, .int .i64 A, .int .i64 B, .slice o n cap] ∧ (0 ≤ op ∧ op ≤ 255) ∧ (-9223372036854775808 ≤ A ∧ A ≤ 9223372036854775807) ∧ n ≤ cap ∧ cap ≤ maxLen ∧ LJ W o n xs := by
  obtain ⟨cs, rfl, hcs⟩ := okWide_struct (P := Tryd.prog) (w := W) (r := .any) (base := base) (t := 24) (v := v0) Tryd.underlying24 hv
  rw [cells24] at hcs
  obtain ⟨l⟩ := cs
  obtain ⟨c0, c1, c2, c3, rfl⟩ := list4 l hcs
  obtain ⟨fuel, hf⟩ := h0
  obtain ⟨ys, m, _, hx, _, hyl, hall⟩ := DataW.trod_struct Tryd.underlying24 hf
  obtain ⟨y0, y1, y2, y3, rfl⟩ := list4 ys hyl
  have g0 := hall 0 _ rfl
  have g1 := hall 1 _ rfl
  have g2 := hall 2 _ rfl
  have g3 := hall 3 _ rfl
  simp [Value.cells, cells5, cells2, cells22] at g0 g1 g2 g3
  obtain ⟨op, e0, _, wo⟩ := DataW.trod_int Tryd.underlying5 g0
  obtain ⟨A, e1, _, wA⟩ := DataW.trod_int Tryd.underlying2 g1
  obtain ⟨B, e2, _, wB⟩ := DataW.trod_int Tryd.underlying2 g2
  simp only [List.cons.injEq, and_true] at e0 e1 e2
  subst e0 e1 e2
  have bo := bounds_u8 wo
  have bA := bounds_i64 wA
  rcases open_ints Tryd.underlying22 Tryd.underlying2 cells2 g3 with ⟨e3, _⟩ | ⟨ad, len, cap, zs, e3, _, hlc, hcm, hzl, _, hcell, _⟩
  · simp only [List.cons.injEq, and_true] at e3
    subst e3
    exact ⟨op, A, B, none, 0, 0, [], rfl, bo, bA, Nat.le_refl _, by unfold maxLen; omega, rfl, Or.inl rfl⟩
  · simp only [List.cons.injEq, and_true] at e3
    subst e3
    have hzlen : len ≤ zs.length := by
      rw [hzl]
      split <;> omega
    refine ⟨op, A, B, some ad, len, cap, zs.take len, rfl, bo, bA, hlc, hcm, by rw [List.length_take]; omega, ?_⟩
    by_cases hl0 : len = 0
    · exact Or.inl hl0
    · refine Or.inr ⟨ad, rfl, ?_, fun i hi => ?_⟩
      · have hc := hcell 0 (by omega)
        apply Nat.lt_of_not_le
        intro hle
        have : W.heap[(ad.add 0).block]? = none := by
          rw [add_block]
          exact Array.getElem?_eq_none hle
        simp [World.cell?, this] at hc
      · rw [hcell i (by omega), List.getD_eq_getElem?_getD, List.getD_eq_getElem?_getD, List.getElem?_take_of_lt hi]

set_option maxHeartbeats 400000 in
set_option maxRecDepth 100000 in
theorem lifted (os : Os) (started : os.Started) (H : Type) (enc : TypeId × Value → H) :
    ReturnsInHanded {} Tryd.checked os 5 .any (fun w args => (Rows.insBackSpec.pre enc Tryd.prog Tryd.f5 [] false w args ∧ laidMetH Tryd.prog Rows.insBackRow.laid w) ∧ sizedMet enc Tryd.prog Tryd.f5 (OpenSpec.ofChange Rows.insBackSpec) false w args)
      (Rows.insBackSpec.post enc Tryd.prog Tryd.f5 false true false false) := by
  refine returnsInHanded_of_change_and (C := Tryd.checked) (X := fun w _ => laidMetH Tryd.prog Rows.insBackRow.laid w) (fun _ _ _ hh h => h.of_heap hh) own started (by kernel_rfl) Tryd.func5
    (ChangeSpec.witness_shaped (enc := enc) (C := Tryd.checked) (os := os) (X := fun w _ => laidMetH Tryd.prog Rows.insBackRow.laid w) false (withTab (World.doorLaid Tryd.prog 400 os)) #[.agg #[.int .u8 0, .int .i64 0, .int .i64 0, .slice none 0 0], .string ⟨#[]⟩] 8 rfl (World.shaped_of_RefB (by kernel_rfl) (by kernel_rfl)) (by kernel_rfl) (by kernel_rfl) (by kernel_rfl) (door_met os _)) ?_
  intro W base args ds gs before hval0 hW _ hsz0 hL _
  have hsz : (DataW.weightsEach Tryd.prog (Tryd.f5.params.toList ++ Rows.insBackSpec.plain.varTypes Tryd.prog) (ds ++ gs)).all (· ≤ reachBytes) = true := hsz0
  have hval : ∀ (j : Nat) t v, Tryd.f5.params[j]? = some t → args[j]? = some v → Value.okWide Tryd.prog W .any base t v := hval0
  have hW' := hW
  obtain ⟨p, q, hA0, hV, rfl, hfz, hnd⟩ := hW
  have hA : DataW.TrodAll enc Tryd.prog W 0 (fun _ => true) true Tryd.f5.params.toList args.toList ds p := hA0
  rw [Tryd.params5] at hA hval hsz
  obtain ⟨v0, v1, d0, d1, p0, p1, rfl, rfl, rfl, h0, h1⟩ := trodAll_two hA
  obtain ⟨rfl, rfl⟩ := trodVars_none hV
  obtain ⟨a1, rfl, rfl, rfl, w1⟩ := open_string Tryd.underlying9 (hval 1 9 v1 rfl rfl) h1
  have z1 := sized_string hsz (j := 1) (t := 9) rfl rfl
  have h0k := h0
  have hlt : ∀ x ∈ p0, x.block < W.heap.size := fun x hx => hW'.lt x (by simp [hx])
  obtain ⟨op, A, B, o, n, cap, xs, rfl, bo, bA, hlc, hcm, hLJ⟩ := open_ins (hval 0 24 v0 rfl rfl) h0
  clear hA0 hval0 h0 hval hA
  simp only [List.append_nil] at hW'
  refine (insBack_walk op A B o n cap xs a1 bo.1 bo.2 bA hlc hcm z1 W (tabs_of hL) hLJ).mono fun e W' ⟨he, bel⟩ => ?_
  subst he
  exact ⟨_, rfl, _, _, _, [], _, [], hW', trodAll_mk1 (shut_bool Tryd.underlying4 _), trodAll_mk2 (Below.trod laidOut (by kernel_rfl) (of_decide_eq_true (by kernel_rfl)) h0k bel hlt) (shut_string Tryd.underlying9 w1), rfl, bel.frame _, fun h => by cases h⟩

theorem insBack_row : Rows.InsBackSaid :=
  OpenClaim.holds_of_wide 5 Tryd.f5 rfl rfl rfl rfl rfl rfl rfl ⟨rfl, rfl, rfl, rfl, rfl⟩ rfl rfl rfl rfl rfl (by kernel_rfl) Tryd.func5 (by kernel_rfl)
    (of_decide_eq_true (by kernel_rfl)) (by unfold Func.isWrapper; first | (rw [if_pos (by decide +kernel)]; kernel_rfl) | (rw [if_neg (by decide +kernel)]; exact ⟨rfl, rfl⟩))
    (fun os started H enc _ => lifted os started H enc)

theorem insBack_holds : Rows.InsBackCardSaid :=
  Claim7.holds_tied_plain_at .later [] [.data] true Rows.insBackCard.stood.harness false
    insBack_row (fun _ h => by cases h) (by kernel_rfl) (fun _ h => by cases h) insBack_row_tie rfl ⟨rfl, rfl⟩ (by kernel_rfl) rfl
    (fun f fn hf hfn => by
      obtain rfl : f = 5 := Option.some.inj ((show Tryd.prog.funcNamed Rows.insBackRow.func = some 5 by kernel_rfl).symm.trans hf) |>.symm
      obtain rfl : fn = Tryd.f5 := (Option.some.inj (Tryd.func5.symm.trans hfn)).symm
      exact ⟨by kernel_rfl, fun j t ht => by
        rw [Tryd.params5] at ht
        have hm : t ∈ [24, 9] := by simpa using Array.mem_of_getElem? ht
        have hall : ([24, 9].all fun u => !Tryd.prog.wantsStandIn u) = true := by kernel_rfl
        exact (show Tryd.prog.wantsStandIn t = false by simpa using List.all_eq_true.1 hall t hm)⟩)
    (by kernel_rfl)
#print axioms insBack_holds
end Go.Proofs.YtdbhdgkbkhjikaaDoor
