/-
 A type and a value that are handed in, opened.
-/
import Derived.Test.YtgleeocebnjliaaGreatDoorBQO
set_option maxHeartbeats 400000
set_option maxRecDepth 100000
namespace Go.Proofs.YtgleeocebnjliaaGreatDoor
set_option linter.unusedVariables false
open Go.ChangeShapes Go.WideShapes Go.ChangeAt Go.RowKit Go.Deep
theorem open_sigV {H : Type} {enc : TypeId × Value → H} {W : World} {base : Nat} {v0 : Value} {d0 : DataW H} {p0 : List MemPlace} (hv : Value.okWide Tryz.prog W .any base 46 v0) (h0 : DataW.Trod enc Tryz.prog W 0 (fun _ => true) true 46 v0 d0 p0) : ∃ td : SigD, v0 = .agg #[.slice td.i.o td.i.n td.i.cap, .slice td.r.o td.r.n td.r.cap] ∧ SigD.ok W td := by
 obtain ⟨cs, rfl, hcs⟩ := okWide_struct (P := Tryz.prog) (w := W) (r := .any) (base := base) (t := 46) (v := v0) Tryz.underlying46 hv
 rw [cellsSig] at hcs
 obtain ⟨l⟩ := cs
 obtain ⟨fuel, hf⟩ := h0
 obtain ⟨td, he, hok⟩ := open_sig fuel l _ (by simpa using hcs) (by simpa [Value.cells] using hf)
 exact ⟨td, by rw [he]; rfl, hok⟩
theorem open_gloV {H : Type} {enc : TypeId × Value → H} {W : World} {base : Nat} {v0 : Value} {d0 : DataW H} {p0 : List MemPlace} (hv : Value.okWide Tryz.prog W .any base 49 v0) (h0 : DataW.Trod enc Tryz.prog W 0 (fun _ => true) true 49 v0 d0 p0) : ∃ gd : GloD, v0 = .agg #[.int .u8 gd.k, .bool gd.m, .int .i64 gd.s] ∧ GloD.ok W gd := by
 obtain ⟨cs, rfl, hcs⟩ := okWide_struct (P := Tryz.prog) (w := W) (r := .any) (base := base) (t := 49) (v := v0) Tryz.underlying49 hv
 rw [cellsGlo] at hcs
 obtain ⟨l⟩ := cs
 obtain ⟨fuel, hf⟩ := h0
 obtain ⟨gd, he, hok⟩ := open_glo fuel l _ (by simpa using hcs) (by simpa [Value.cells] using hf)
 exact ⟨gd, by rw [he]; rfl, hok⟩
end Go.Proofs.YtgleeocebnjliaaGreatDoor
