/-
 How many parts of its memory a module that is handed in may have.
 For every module, every number and every text, a part of a memory that is added behind the others counts where it lies, and all else is as it was: the law InstLast says true.
-/
import Derived.Test.YtoikoijpkchamaaGreatDoorCQO
import Derived.SizedLaws
import Derived.Test.YtoikoijpkchamaaGreatDoorCIF
import Derived.Test.YtoikoijpkchamaaGreatDoorTie
import Derived.Test.YtoikoijpkchamaaGreatDoorCards
import Derived.ProofKit
import Derived.OpenShut
import Derived.ShutString
import Derived.LaidMore
import Derived.Stop.Joined
import Derived.SevenTiedAt
import Derived.PinnedBridge
import Derived.Lib.LaidTab
import Derived.Lib.LaidU8T
import Derived.Below
import Derived.Stop.LaidErr
import Derived.Carry
import Derived.ChangeSame
set_option maxHeartbeats 1000000
set_option maxRecDepth 100000
namespace Go.Proofs.YtoikoijpkchamaaGreatDoor
open Go.ChangeShapes Go.WideShapes Go.ChangeAt Go.RowKit Go.Deep
set_option linter.unusedVariables false
theorem data_reach {H : Type} {enc : TypeId × Value → H} {W : World} {m : ModD} {d0 : DataW H} {p0 : List MemPlace} (h0 : DataW.Trod enc Tryz.prog W 0 (fun _ => true) true 30 m.v d0 p0) (hw : ∀ x ∈ d0.weights Tryz.prog 30, x ≤ reachBytes) : m.data.length ≤ 5864062014700 := by
 obtain ⟨fuel, hf⟩ := h0
 obtain ⟨ys, k, _, hx, _, hyl, hall⟩ := DataW.trod_struct Tryz.underlying30 hf
 obtain ⟨y0, y1, y2, y3, y4, y5, y6, y7, y8, y9, y10, rfl⟩ := list_eleven ys hyl
 have g10 := hall 10 _ rfl
 clear hall hf
 simp [ModD.v, Value.cells, cellsDats] at g10
 rcases open_slice Tryz.underlying28 g10 with ⟨e, _⟩ | ⟨a, len0, cap0, mm, n, D, Pl, e, _, hlc, hcm, hm, rfl, hall⟩
 ·simp only [List.cons.injEq, Value.slice.injEq, and_true] at e
  omega
 ·simp only [List.cons.injEq, Value.slice.injEq, and_true] at e
  obtain ⟨_, e2, _⟩ := e
  obtain ⟨rfl, _⟩ := Prod.mk.inj hx
  have h24 : Tryz.prog.bytesOf 91 = 24 := by kernel_rfl
  have hs : (len0 + (mm - len0)) * 24 ∈ (DataW.slice ((List.range len0).map D) ((List.range (mm - len0)).map fun j => D (len0 + j))).weights Tryz.prog 28 := by
   simp only [DataW.weights, Tryz.underlying28, h24, List.length_map, List.length_range]
   exact List.mem_cons_self
  have := hw _ (by
   simp only [DataW.weights, Tryz.underlying30]
   exact DataW.weights_mem_each (j := 10) rfl rfl _ hs)
  unfold reachBytes at this
  omega
end Go.Proofs.YtoikoijpkchamaaGreatDoor
namespace Go.Proofs.YtoikoijpkchamaaGreatDoor
open Go.ChangeShapes Go.WideShapes Go.ChangeAt Go.RowKit
open Go.ChangeMaps (open_string shut_string)
set_option linter.unusedVariables false
theorem own : ownKnob Tryz.prog.godebug = none := by kernel_rfl
def withTabs (w0 : World) : World :=
 { w0 with heap := (w0.heap.modify 3 fun
  | .cells _ t frozen => .cells (Lib.firstTab.map fun z => Value.int .u8 z).toArray t frozen
  | o => o).modify 2 fun
  | .cells _ t frozen => .cells (Lib.deBruijn64tab.map fun (z : Nat) => Value.int .u8 (z : Int)).toArray t frozen
  | o => o }
theorem door_met (os : Os) (args : Array Value) : laidMetH Tryz.prog Rows.instLastRow.laid ((withTabs (World.doorLaid Tryz.prog 400 os)).forCall (fun _ _ => 0) ⟨#[], args, []⟩).memory :=
 laidMetH_of_parts3 (fuel := 8) (laidMet_of_run' 8 (by kernel_rfl) (by kernel_rfl)) (by kernel_rfl) (by kernel_rfl)
theorem tab_eq : (Rows.laid_math_bits_deBruijn64tab : DataW Unit) = Lib.tabData .u8 (Lib.deBruijn64tab.map fun (z : Nat) => (z : Int)) := by kernel_rfl
theorem tabs_of {W : World} (h : laidMetH Tryz.prog Rows.instLastRow.laid W) : Amb W := by
 rw [MakeChecks.laidMetH_plain _ _ _ (by kernel_rfl)] at h
 have e1 : Rows.laid_unicode_utf8_first = Lib.firstData := Pinned.utf8First_eq
 have e2 : (Rows.laid_unicode_utf8_acceptRanges : DataW Unit) = Lib.acceptData := by kernel_rfl
 have r1 := Lib.laidMet.reads h (d := Rows.laid_unicode_utf8_first) (.tail _ (.tail _ (.tail _ (.head _))))
 have r2 := Lib.laidMet.reads h (d := Rows.laid_unicode_utf8_acceptRanges) (.tail _ (.tail _ (.head _)))
 rw [e1] at r1
 rw [e2] at r2
 have hU := utf8Tabs_of_readsT (U8Types.of196 vLays) ⟨by kernel_rfl, by kernel_rfl, by kernel_rfl, by kernel_rfl, by kernel_rfl, by kernel_rfl, by kernel_rfl⟩ r1 r2
 have h2 : laidMet Tryz.prog (("math/bits.deBruijn64tab", Lib.tabData .u8 (Lib.deBruijn64tab.map fun (z : Nat) => (z : Int))) :: [("unicode/utf8.acceptRanges", Rows.laid_unicode_utf8_acceptRanges), ("unicode/utf8.first", Rows.laid_unicode_utf8_first)]) W := by
  rw [← tab_eq]
  exact h.tail
 have h3 := Lib.tabIs_of_head (g := 2) (t := 275) (e := 5) (n := 64) (by kernel_rfl) (by kernel_rfl) (by kernel_rfl) (by kernel_rfl) (by kernel_rfl) (by kernel_rfl) h2
 have hT : TabIn W := by
  intro j hj
  have h4 := h3.cell (g := 2) (by kernel_rfl) j (by rw [List.length_map]; exact hj)
  rw [h4]
  have hl : Lib.deBruijn64tab.length = 64 := rfl
  simp [List.getD_eq_getElem?_getD, List.getElem?_eq_getElem (show j < Lib.deBruijn64tab.length by omega)]
 refine ⟨hT, hU, ?_⟩
 have hc := ((show Lib.Utf8Tabs 3 4 W from hU).2 0 (by omega)).1
 apply Nat.lt_of_not_le
 intro hle
 have : W.heap[4]? = none := Array.getElem?_eq_none hle
 simp [World.cell?, this] at hc
theorem size_reach {a : ByteArray} (h : a.data.toList.length ≤ reachBytes) : a.size ≤ 140737488355328 := by
 rw [Array.length_toList] at h
 exact Nat.le_trans h (by decide)
theorem laidOut : laidOutB Tryz.prog = true := by kernel_rfl
theorem lifted (os : Os) (started : os.Started) (H : Type) (enc : TypeId × Value → H) :
  ReturnsInHanded {} Tryz.checked os 14 .any (fun w args => (Rows.instLastSpec.pre enc Tryz.prog Tryz.f14 [] false w args ∧ laidMetH Tryz.prog Rows.instLastRow.laid w) ∧ sizedMet enc Tryz.prog Tryz.f14 (OpenSpec.ofChange Rows.instLastSpec) false w args)
   (Rows.instLastSpec.post enc Tryz.prog Tryz.f14 false true false false) := by
 refine returnsInHanded_of_change_and (C := Tryz.checked) (X := fun w _ => laidMetH Tryz.prog Rows.instLastRow.laid w) (fun _ _ _ hh h => h.of_heap hh) own started (by kernel_rfl) Tryz.func14
  (ChangeSpec.witness_shaped (enc := enc) (C := Tryz.checked) (os := os) (X := fun w _ => laidMetH Tryz.prog Rows.instLastRow.laid w) false (withTabs (World.doorLaid Tryz.prog 400 os)) #[.agg #[.slice none 0 0, .slice none 0 0, .slice none 0 0, .int .i64 0, .int .i64 0, .int .i64 0, .slice none 0 0, .slice none 0 0, .int .i64 0, .slice none 0 0, .slice none 0 0], .int .i64 0, .string ByteArray.empty] 8 rfl (World.shaped_of_RefB (by kernel_rfl) (by kernel_rfl)) (by kernel_rfl) (by kernel_rfl) (by kernel_rfl) (door_met os _)) ?_
 intro W base args ds gs before hval0 hW _ hsz0 hL _
 have hsz : (DataW.weightsEach Tryz.prog (Tryz.f14.params.toList ++ Rows.instLastSpec.plain.varTypes Tryz.prog) (ds ++ gs)).all (· ≤ reachBytes) = true := hsz0
 have hval : ∀ (j : Nat) t v, Tryz.f14.params[j]? = some t → args[j]? = some v → Value.okWide Tryz.prog W .any base t v := hval0
 have hW' := hW
 obtain ⟨p, q, hA0, hV, rfl, hfz, hnd⟩ := hW
 have hA : DataW.TrodAll enc Tryz.prog W 0 (fun _ => true) true Tryz.f14.params.toList args.toList ds p := hA0
 rw [Tryz.params14] at hA hval hsz
 obtain ⟨v0, vs0, d0, ds0, p0, q0, hargs0, rfl, rfl, h0, r0⟩ := trodAll_cons hA
 obtain ⟨v1, vs1, d1, ds1, p1, q1, hargs1, rfl, rfl, h1, r1⟩ := trodAll_cons r0
 obtain ⟨v2, vs2, d2, ds2, p2, q2, hargs2, rfl, rfl, h2, r2⟩ := trodAll_cons r1
 obtain ⟨rfl, rfl, rfl⟩ := trodAll_nil r2
 obtain rfl : args = #[v0, v1, v2] := by cases args; simp_all
 obtain ⟨rfl, rfl⟩ := trodVars_none hV
 have h0k := h0
 have hlt0 : ∀ x ∈ p0, x.block < W.heap.size := fun x hx => hW'.lt x (by simp [hx])
 obtain ⟨m0, rfl, hm0⟩ := open_module (hval 0 30 v0 rfl rfl) h0
 obtain ⟨a1, rfl, rfl, rfl, w1⟩ := open_int Tryz.underlying3 (hval 1 3 v1 rfl rfl) h1
 obtain ⟨a2, rfl, rfl, rfl, w2⟩ := open_string Tryz.underlying9 (hval 2 9 v2 rfl rfl) h2
 have z2 := sized_string hsz (j := 2) (t := 9) rfl rfl
 clear hA0 hval0 hval hA
 simp only [List.append_nil] at hW'
 refine (instLast_walk m0 a1 (bounds_i64 w1) a2 (size_reach z2) W (tabs_of hL) hm0 (data_reach h0k (fun x hx => by have := List.all_eq_true.1 hsz x (DataW.weights_mem_each (j := 0) rfl rfl x hx); simpa using this))).mono fun e W' ⟨he, bel⟩ => ?_
 subst he
 exact ⟨_, rfl, _, _, _, [], _, [], hW', trodAll_mk1 (shut_bool Tryz.underlying4 _), (trodAll_cons_mk (Below.trod laidOut (by kernel_rfl) (of_decide_eq_true (by kernel_rfl)) h0k bel hlt0) (trodAll_cons_mk (shut_int Tryz.underlying3 w1) (trodAll_cons_mk (shut_string Tryz.underlying9 w2) trodAll_mk0))), rfl, bel.frame _, fun h => by cases h⟩
end Go.Proofs.YtoikoijpkchamaaGreatDoor
