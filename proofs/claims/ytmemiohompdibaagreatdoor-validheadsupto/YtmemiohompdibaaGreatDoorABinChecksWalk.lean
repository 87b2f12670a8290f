/-
 BinChecks: what the program's Check says of a module is what the document's own BinCheck says.
-/
import Derived.Test.YtmemiohompdibaaGreatDoorARF4n
import Derived.Test.YtmemiohompdibaaGreatDoorARF4p
import Derived.Test.YtmemiohompdibaaGreatDoorAOpenS
import Derived.Test.YtmemiohompdibaaGreatDoorARMat
import Derived.Test.YtmemiohompdibaaGreatDoorABW3
import Derived.Deep.AppendLies
import Derived.Test.YtmemiohompdibaaGreatDoorAQG
import Derived.Test.YtmemiohompdibaaGreatDoorANRow
import Derived.Lib.Builder
import Derived.Lib.AppendStr
import Derived.WalkKit
import Derived.Laws.Externs
import Derived.Deep.RegionHeld3
namespace Go.Proofs.YtmemiohompdibaaGreatDoor
set_option linter.unusedVariables false
open Go.RowKit
theorem cells11 {w w' : World} {c0 c1 c2 c3 c4 c5 c6 c7 c8 c9 c10 : Value} {t : TypeId} (h : Below (w.heap.size + 1) (w.alloc (.cells #[c0, c1, c2, c3, c4, c5, c6, c7, c8, c9, c10] t)) w') : w'.cell? ⟨w.heap.size, 0, none⟩ = some c0 ∧ w'.cell? ⟨w.heap.size, 1, none⟩ = some c1 ∧ w'.cell? ⟨w.heap.size, 2, none⟩ = some c2 ∧ w'.cell? ⟨w.heap.size, 3, none⟩ = some c3 ∧ w'.cell? ⟨w.heap.size, 4, none⟩ = some c4 ∧ w'.cell? ⟨w.heap.size, 5, none⟩ = some c5 ∧ w'.cell? ⟨w.heap.size, 6, none⟩ = some c6 ∧ w'.cell? ⟨w.heap.size, 7, none⟩ = some c7 ∧ w'.cell? ⟨w.heap.size, 8, none⟩ = some c8 ∧ w'.cell? ⟨w.heap.size, 9, none⟩ = some c9 ∧ w'.cell? ⟨w.heap.size, 10, none⟩ = some c10 := by
 have := (h.block w.heap.size (Nat.lt_succ_self _)).trans (heap_alloc_new w _)
 simp [World.cell?, this]
theorem maxIn_below {w w' : World} (h : MaxIn w) (b : Below w.heap.size w w') : MaxIn w' := h.of_cell (b.cell (p := ⟨conRen.g 1, 0, none⟩) h.lt)
theorem binCheck_any (m : ModD) (w : World) (hm : m.ok w) (hs : SmallM m 1048576) (hM : MaxIn w) :
  Calls Tryz.prog 32 #[.agg (mcA m)] w fun r w' => r = .returned (.int .i64 (mChk m)) ∧ Below w.heap.size w w' := by
 have hnc : ∀ d ∈ m.funcs, ∀ w', Below w.heap.size w w' → Calls Tryz.prog 53 #[.slice d.o d.b.length d.cap] w' fun r w'' => r = .returned (.int .i64 (nChk d.b)) ∧ Below w'.heap.size w' w'' := fun d hd w' b =>
  rncheck_any d.o d.cap d.b w' ((hm.funcs.all d hd).2.2.1.below b) (hm.funcs.all d hd).2.2.2.1 (maxIn_below hM b)
 have hE : fstE 0 (fstE (okE (decide ((m.types.length : Int) ≤ 16)) 2) (fstE (frst chkSig m.types) (fstE (okE (decide ((m.imports.length : Int) ≤ 16)) 2) (fstE (frst chkNam m.imports) (fstE (okE (decide ((m.funcs.length : Int) ≤ 16)) 2) (fstE (frst chkFun m.funcs) (fstE (okE (decide (0 ≤ m.table)) 1) (fstE (okE (decide (m.table ≤ 16)) 2) (fstE (okE (pgOk m.pages m.most) 1) (fstE (okE (decide (m.most ≤ 8)) 2) (fstE (okE (decide ((m.globals.length : Int) ≤ 8)) 2) (fstE (frst chkGlo m.globals) (fstE (okE (decide ((m.exports.length : Int) ≤ 8)) 2) (fstE (frst chkNam m.exports) (fstE (chkNum m.start) (fstE (okE (decide ((m.elems.length : Int) ≤ 4)) 2) (fstE (frst chkEle m.elems) (fstE (okE (decide ((m.data.length : Int) ≤ 4)) 2) (frst chkDat m.data))))))))))))))))))) = mChk m := by
  rw [fstE_zero]
  unfold mChk chkL
  simp only [fstE_assoc]
 by_cases hp : m.pages < 0
 ·exact bincheck_neg m.oT m.oI m.oF m.oG m.oE m.oL m.oD m.types.length m.cT m.imports.length m.cI m.funcs.length m.cF m.globals.length m.cG m.exports.length m.cE m.elems.length m.cL m.data.length m.cD m.table m.pages m.most m.start (mChk m) hp w
   m.types hm.types rfl hs.types m.imports hm.imports rfl hs.imports m.funcs hm.funcs rfl hs.funcs m.globals hm.globals rfl hs.globals m.exports hm.exports rfl hs.exports m.elems hm.elems rfl hs.elems m.data hm.data rfl hs.data hs.sig hs.fn hs.ele hnc hE
 ·exact bincheck_pos m.oT m.oI m.oF m.oG m.oE m.oL m.oD m.types.length m.cT m.imports.length m.cI m.funcs.length m.cF m.globals.length m.cG m.exports.length m.cE m.elems.length m.cL m.data.length m.cD m.table m.pages m.most m.start (mChk m) hp w
   m.types hm.types rfl hs.types m.imports hm.imports rfl hs.imports m.funcs hm.funcs rfl hs.funcs m.globals hm.globals rfl hs.globals m.exports hm.exports rfl hs.exports m.elems hm.elems rfl hs.elems m.data hm.data rfl hs.data hs.sig hs.fn hs.ele hnc hE
end Go.Proofs.YtmemiohompdibaaGreatDoor
