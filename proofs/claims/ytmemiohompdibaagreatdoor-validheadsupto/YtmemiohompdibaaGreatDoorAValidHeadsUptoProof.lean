/-
 ValidHeads: whatever module is handed in (where what is read is of bulk at most 1048576), the program's valid.Head says what the document's own ValidHead says; the module reads as it did.
-/
import Derived.Test.YtmemiohompdibaaGreatDoorAValidHeadsWalk
import Derived.Test.YtmemiohompdibaaGreatDoorTie
import Derived.Test.YtmemiohompdibaaGreatDoorCards
import Derived.ProofKit
import Derived.OpenShut
import Derived.ShutString
import Derived.SizedLaws
import Derived.LaidMore
import Derived.Stop.Joined
import Derived.SevenTiedAt
import Derived.PinnedBridge
import Derived.Lib.LaidTab
import Derived.Lib.LaidU8T
import Derived.Below
import Derived.Carry
import Derived.ChangeSame
import Derived.Deep.DeepHandedRow
set_option maxHeartbeats 1000000
set_option maxRecDepth 100000
namespace Go.Proofs.YtmemiohompdibaaGreatDoor
open Go.ChangeShapes Go.WideShapes Go.ChangeAt Go.RowKit
open Go.ChangeMaps (open_string shut_string)
set_option linter.unusedVariables false
theorem own : ownKnob Tryz.prog.godebug = none := by kernel_rfl
def withTabs (w0 : World) : World :=
 { w0 with heap := (w0.heap.modify 2 fun
  | .cells _ t frozen => .cells (Lib.firstTab.map fun z => Value.int .u8 z).toArray t frozen
  | o => o).modify 1 fun
  | .cells _ t frozen => .cells (Lib.deBruijn64tab.map fun (z : Nat) => Value.int .u8 (z : Int)).toArray t frozen
  | o => o }
theorem tab_eq : (Rows.laid_math_bits_deBruijn64tab : DataW Unit) = Lib.tabData .u8 (Lib.deBruijn64tab.map fun (z : Nat) => (z : Int)) := by kernel_rfl
theorem tabs_of {W : World} (h : laidMetH Tryz.prog Rows.validHeadsRow.laid W) : Amb W := by
 rw [MakeChecks.laidMetH_plain _ _ _ (by kernel_rfl)] at h
 have e1 : Rows.laid_unicode_utf8_first = Lib.firstData := Pinned.utf8First_eq
 have e2 : (Rows.laid_unicode_utf8_acceptRanges : DataW Unit) = Lib.acceptData := by kernel_rfl
 have r1 := Lib.laidMet.reads h (d := Rows.laid_unicode_utf8_first) (.tail _ (.tail _ (.head _)))
 have r2 := Lib.laidMet.reads h (d := Rows.laid_unicode_utf8_acceptRanges) (.tail _ (.head _))
 rw [e1] at r1
 rw [e2] at r2
 have hU := utf8Tabs_of_readsT (U8Types.of196 vLays) ⟨by kernel_rfl, by kernel_rfl, by kernel_rfl, by kernel_rfl, by kernel_rfl, by kernel_rfl, by kernel_rfl⟩ r1 r2
 have h2 : laidMet Tryz.prog (("math/bits.deBruijn64tab", Lib.tabData .u8 (Lib.deBruijn64tab.map fun (z : Nat) => (z : Int))) :: [("unicode/utf8.acceptRanges", Rows.laid_unicode_utf8_acceptRanges), ("unicode/utf8.first", Rows.laid_unicode_utf8_first)]) W := by
  rw [← tab_eq]
  exact h
 have h3 := Lib.tabIs_of_head (g := 1) (t := 204) (e := 5) (n := 64) (by kernel_rfl) (by kernel_rfl) (by kernel_rfl) (by kernel_rfl) (by kernel_rfl) (by kernel_rfl) h2
 have hT : TabIn W := by
  intro j hj
  have h4 := h3.cell (g := 1) (by kernel_rfl) j (by rw [List.length_map]; exact hj)
  rw [h4]
  have hl : Lib.deBruijn64tab.length = 64 := rfl
  simp [List.getD_eq_getElem?_getD, List.getElem?_eq_getElem (show j < Lib.deBruijn64tab.length by omega)]
 refine ⟨hT, hU, ?_⟩
 have hc := ((show Lib.Utf8Tabs 2 3 W from hU).2 0 (by omega)).1
 apply Nat.lt_of_not_le
 intro hle
 have : W.heap[3]? = none := Array.getElem?_eq_none hle
 simp [World.cell?, this] at hc
theorem size_reach {a : ByteArray} (h : a.data.toList.length ≤ reachBytes) : a.size ≤ 140737488355328 := by
 rw [Array.length_toList] at h
 exact Nat.le_trans h (by decide)
theorem laidOut : laidOutB Tryz.prog = true := by kernel_rfl
theorem SmallM.mono {m : ModD} {b c : Nat} (h : SmallM m b) (k : b ≤ c) : SmallM m c :=
 ⟨Nat.le_trans h.types k, Nat.le_trans h.imports k, Nat.le_trans h.funcs k, Nat.le_trans h.globals k, Nat.le_trans h.exports k, Nat.le_trans h.elems k, Nat.le_trans h.data k, fun d hd => ⟨Nat.le_trans (h.sig d hd).1 k, Nat.le_trans (h.sig d hd).2 k⟩, fun d hd => Nat.le_trans (h.fn d hd) k, fun d hd => Nat.le_trans (h.ele d hd) k⟩
theorem bulk_bound {H : Type} (d : DataW H) (h : Rows.uptoSmall H ([d] ++ []) = true) : Rows.uptoBulk d ≤ 1048576 := by
 have h2 : Rows.uptoBulkAll ([d] ++ []) ≤ 1048576 := of_decide_eq_true h
 simp only [List.append_nil, Rows.uptoBulkAll] at h2
 omega
theorem contract (H : Type) (enc : TypeId × Value → H) (W : World) (base : Nat) (args : Array Value) (ds gs : List (DataW H)) (before : List MemPlace)
  (hval : ∀ (j : Nat) t v, Tryz.f3.params[j]? = some t → args[j]? = some v → Value.okWide Tryz.prog W .any base t v)
  (hW : DataW.Whole enc Tryz.prog Tryz.f3.params.toList Rows.validHeadsSpec.vars false W args.toList ds gs before) (hcond : Rows.uptoSmall H (ds ++ gs) = true) (hL : laidMetH Tryz.prog Rows.validHeadsRow.laid W) (hsh : W.ShapedOpen Tryz.prog) :
  Calls Tryz.prog 3 args W fun e W' => ∃ v, e = .returned v ∧ Rows.validHeadsSpec.post enc Tryz.prog Tryz.f3 false true false false W args v W' := by
 have hW' := hW
 obtain ⟨p, q, hA0, hV, rfl, hfz, hnd⟩ := hW
 have hA : DataW.TrodAll enc Tryz.prog W 0 (fun _ => true) true Tryz.f3.params.toList args.toList ds p := hA0
 rw [Tryz.params3] at hA hval
 obtain ⟨v0, vs0, d0, ds0, p0, q0, hargs0, rfl, rfl, h0, r0⟩ := trodAll_cons hA
 obtain ⟨rfl, rfl, rfl⟩ := trodAll_nil r0
 obtain rfl : args = #[v0] := by cases args; simp_all
 obtain ⟨rfl, rfl⟩ := trodVars_none hV
 have h0k := h0
 have hlt0 : ∀ x ∈ p0, x.block < W.heap.size := fun x hx => hW'.lt x (by simp [hx])
 obtain ⟨m0, rfl, hm0, hs0⟩ := open_moduleS (hval 0 30 v0 rfl rfl) h0
 clear hA0 hval hA
 simp only [List.append_nil] at hW'
 refine (validHeads_walk m0 W (tabs_of hL) (max_shaped hsh) hm0 (hs0.mono (bulk_bound d0 hcond))).mono fun e W' ⟨he, bel⟩ => ?_
 subst he
 exact ⟨_, rfl, _, _, _, [], _, [], hW', trodAll_mk1 (shut_bool Tryz.underlying4 _), (trodAll_cons_mk (Below.trod laidOut (by kernel_rfl) (of_decide_eq_true (by kernel_rfl)) h0k bel hlt0) trodAll_mk0), rfl, bel.frame _, fun h => by cases h⟩
noncomputable def laidWorld (os : Os) : World := withTabs (World.doorLaid Tryz.prog 400 os)
theorem laid_met (os : Os) : laidMet Tryz.prog Rows.validHeadsRow.laid ((laidWorld os).forCall (fun _ _ => 0) ⟨#[], #[.agg #[.slice none 0 0, .slice none 0 0, .slice none 0 0, .int .i64 0, .int .i64 0, .int .i64 0, .slice none 0 0, .slice none 0 0, .int .i64 0, .slice none 0 0, .slice none 0 0]], []⟩).memory :=
 laidMet_of_run' 8 (by kernel_rfl) (by kernel_rfl)
theorem reads (os : Os) {H : Type} (enc : TypeId × Value → H) : ∃ places, DataW.whole enc Tryz.prog ((laidWorld os).forCall (fun _ _ => 0) ⟨#[], #[.agg #[.slice none 0 0, .slice none 0 0, .slice none 0 0, .int .i64 0, .int .i64 0, .int .i64 0, .slice none 0 0, .slice none 0 0, .int .i64 0, .slice none 0 0, .slice none 0 0]], []⟩).memory Tryz.f3.params.toList Rows.validHeadsSpec.vars false #[.agg #[.slice none 0 0, .slice none 0 0, .slice none 0 0, .int .i64 0, .int .i64 0, .int .i64 0, .slice none 0 0, .slice none 0 0, .int .i64 0, .slice none 0 0, .slice none 0 0]].toList 8 = some ([.agg [.nil, .nil, .nil, .lit (.int .i64 0), .lit (.int .i64 0), .lit (.int .i64 0), .nil, .nil, .lit (.int .i64 0), .nil, .nil]], [], places) :=
 ⟨[], by kernel_rfl⟩
theorem liftedUpto (os : Os) (started : os.Started) (H : Type) (enc : TypeId × Value → H) (F : Stop.Interp) :
  ReturnsInHanded {} Tryz.checked os 3 .any ((Rows.OpenSpec.upto Rows.validHeadsSpec).preRow enc Tryz.prog Tryz.f3 Rows.validHeadsUptoRow.domain false Rows.validHeadsUptoRow.laid) (((Rows.OpenSpec.upto Rows.validHeadsSpec).at F).post enc Tryz.prog Tryz.f3 false true false false) := by
 obtain ⟨places, hx⟩ := reads os enc
 refine returnsInHanded_of_row (C := Tryz.checked) (s := Rows.OpenSpec.upto Rows.validHeadsSpec) own started (by kernel_rfl) Tryz.func3
  (witness_row_at (enc := enc) (C := Tryz.checked) false (laidWorld os) #[.agg #[.slice none 0 0, .slice none 0 0, .slice none 0 0, .int .i64 0, .int .i64 0, .int .i64 0, .slice none 0 0, .slice none 0 0, .int .i64 0, .slice none 0 0, .slice none 0 0]] rfl (by kernel_rfl) (by kernel_rfl) (by kernel_rfl)
   (OpenSpec.preRow_of_cond 8 hx (by kernel_rfl) (fun k hk => by cases hk; kernel_rfl) (by kernel_rfl) (laid_met os))) ?_
 intro W base args ds gs before hval hW _ hcond _ hL hsh _
 exact contract H enc W base args ds gs before hval hW (hcond _ rfl) hL hsh
theorem validHeadsUpto_row : Rows.ValidHeadsUptoSaid :=
 OpenClaim.holds_of_cond 3 Tryz.f3 rfl rfl rfl rfl rfl rfl rfl ⟨rfl, rfl, rfl, rfl, rfl⟩ rfl rfl rfl rfl rfl (by kernel_rfl) Tryz.func3 (by kernel_rfl)
  (of_decide_eq_true (by kernel_rfl)) (by unfold Func.isWrapper; first | (rw [if_pos (by decide +kernel)]; kernel_rfl) | (rw [if_neg (by decide +kernel)]; exact ⟨rfl, rfl⟩))
  (fun os started H enc _ F => by rw [OpenClaim.pre_eq_preRow]; exact liftedUpto os started H enc F)
theorem validHeadsUpto_holds : Rows.ValidHeadsUptoCardSaid :=
 Claim7.holds_tied_plain_at .later [] _ _ _ _
  validHeadsUpto_row (fun _ h => by cases h) (by kernel_rfl) (fun _ h => by cases h) validHeadsUpto_row_tie rfl ⟨rfl, rfl⟩ (by kernel_rfl) rfl
  (fun f fn hf hfn => by
   obtain rfl : f = 3 := Option.some.inj ((show Tryz.prog.funcNamed Rows.validHeadsRow.func = some 3 by kernel_rfl).symm.trans hf) |>.symm
   obtain rfl : fn = Tryz.f3 := (Option.some.inj (Tryz.func3.symm.trans hfn)).symm
   exact ⟨by kernel_rfl, fun j t ht => by
    rw [Tryz.params3] at ht
    have hm : t ∈ [30] := by simpa using Array.mem_of_getElem? ht
    have hall : ([30].all fun u => !Tryz.prog.wantsStandIn u) = true := by kernel_rfl
    exact (show Tryz.prog.wantsStandIn t = false by simpa using List.all_eq_true.1 hall t hm)⟩)
  (by kernel_rfl)
#print axioms validHeadsUpto_holds
end Go.Proofs.YtmemiohompdibaaGreatDoor
