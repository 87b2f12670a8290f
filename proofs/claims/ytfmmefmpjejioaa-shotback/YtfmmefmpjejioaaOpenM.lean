/-
  A module that is handed in, opened.
-/
import Derived.Test.YtfmmefmpjejioaaOpenR
namespace Go.Proofs.Ytfmmefmpjejioaa
open Go.ChangeShapes Go.WideShapes Go.ChangeAt Go.RowKit Go.Deep

theorem list_two {α : Type} : ∀ (l : List α), l.length = 2 → ∃ a b, l = [a, b]
  | [a, b], _ => ⟨a, b, rfl⟩
theorem list_three {α : Type} : ∀ (l : List α), l.length = 3 → ∃ a b c, l = [a, b, c]
  | [a, b, c], _ => ⟨a, b, c, rfl⟩
theorem list_eleven {α : Type} : ∀ (l : List α), l.length = 11 → ∃ a b c d e f g h i j k, l = [a, b, c, d, e, f, g, h, i, j, k]
  | [a, b, c, d, e, f, g, h, i, j, k], _ => ⟨a, b, c, d, e, f, g, h, i, j, k, rfl⟩
/-- The numbers that an int holds. -/
def inI (x : Int) : Prop := -9223372036854775808 ≤ x ∧ x ≤ 9223372036854775807
/-- A function's type. -/
structure SigD where
  i : NumD
  r : NumD
def SigD.cells (d : SigD) : List Value := [d.i.v, d.r.v]
def SigD.ok (w : World) (d : SigD) : Prop := d.i.ok .u8 w ∧ d.r.ok .u8 w
/-- An import, or an export: a name and a number. -/
structure NamD where
  s : ByteArray
  n : Int
def NamD.cells (d : NamD) : List Value := [.string d.s, .int .i64 d.n]
def NamD.ok (_ : World) (d : NamD) : Prop := d.s.size ≤ maxLen ∧ inI d.n
/-- A function. -/
structure FunD where
  t : Int
  l : NumD
  o : Option Addr
  cap : Nat
  b : List InsD
def FunD.cells (d : FunD) : List Value := [.int .i64 d.t, d.l.v, .slice d.o d.b.length d.cap]
def FunD.ok (w : World) (d : FunD) : Prop := inI d.t ∧ d.l.ok .u8 w ∧ LD w d.o d.b ∧ d.b.length ≤ d.cap ∧ d.cap ≤ maxLen
/-- A global. -/
structure GloD where
  k : Int
  m : Bool
  s : Int
def GloD.cells (d : GloD) : List Value := [.int .u8 d.k, .bool d.m, .int .i64 d.s]
def GloD.ok (_ : World) (d : GloD) : Prop := 0 ≤ d.k ∧ d.k ≤ 255 ∧ inI d.s
/-- A part of a table. -/
structure EleD where
  a : Int
  f : NumD
def EleD.cells (d : EleD) : List Value := [.int .i64 d.a, d.f.v]
def EleD.ok (w : World) (d : EleD) : Prop := inI d.a ∧ d.f.ok .i64 w
/-- A part of a memory. -/
structure DatD where
  a : Int
  s : ByteArray
def DatD.cells (d : DatD) : List Value := [.int .i64 d.a, .string d.s]
def DatD.ok (_ : World) (d : DatD) : Prop := inI d.a ∧ d.s.size ≤ maxLen
instance : Inhabited NumD := ⟨⟨none, 0, 0, []⟩⟩
instance : Inhabited SigD := ⟨⟨default, default⟩⟩
instance : Inhabited NamD := ⟨⟨⟨#[]⟩, 0⟩⟩
instance : Inhabited FunD := ⟨⟨0, default, none, 0, []⟩⟩
instance : Inhabited GloD := ⟨⟨0, false, 0⟩⟩
instance : Inhabited EleD := ⟨⟨0, default⟩⟩
instance : Inhabited DatD := ⟨⟨0, ⟨#[]⟩⟩⟩
theorem cellsStr : Try.prog.cellsOf 9 = 1 := by kernel_rfl
theorem cellsInt : Try.prog.cellsOf 3 = 1 := by kernel_rfl
theorem cellsBool : Try.prog.cellsOf 4 = 1 := by kernel_rfl
theorem cellsInts : Try.prog.cellsOf 22 = 1 := by kernel_rfl
section
variable {H : Type} {enc : TypeId × Value → H} {W : World}
end
/-- A module. -/
structure ModD where
  oT : Option Addr
  cT : Nat
  types : List SigD
  oI : Option Addr
  cI : Nat
  imports : List NamD
  oF : Option Addr
  cF : Nat
  funcs : List FunD
  table : Int
  pages : Int
  most : Int
  oG : Option Addr
  cG : Nat
  globals : List GloD
  oE : Option Addr
  cE : Nat
  exports : List NamD
  start : Int
  oL : Option Addr
  cL : Nat
  elems : List EleD
  oD : Option Addr
  cD : Nat
  data : List DatD
def ModD.v (m : ModD) : Value := .agg #[.slice m.oT m.types.length m.cT, .slice m.oI m.imports.length m.cI, .slice m.oF m.funcs.length m.cF, .int .i64 m.table, .int .i64 m.pages, .int .i64 m.most, .slice m.oG m.globals.length m.cG, .slice m.oE m.exports.length m.cE, .int .i64 m.start, .slice m.oL m.elems.length m.cL, .slice m.oD m.data.length m.cD]
structure ModD.ok (w : World) (m : ModD) : Prop where
  types : RowsOf w 2 SigD.cells SigD.ok m.oT m.cT m.types
  imports : RowsOf w 2 NamD.cells NamD.ok m.oI m.cI m.imports
  funcs : RowsOf w 3 FunD.cells FunD.ok m.oF m.cF m.funcs
  table : inI m.table
  pages : inI m.pages
  most : inI m.most
  globals : RowsOf w 3 GloD.cells GloD.ok m.oG m.cG m.globals
  exports : RowsOf w 2 NamD.cells NamD.ok m.oE m.cE m.exports
  start : inI m.start
  elems : RowsOf w 2 EleD.cells EleD.ok m.oL m.cL m.elems
  data : RowsOf w 2 DatD.cells DatD.ok m.oD m.cD m.data
theorem ModD.ok.below {w w' : World} {m : ModD} (h : m.ok w) (b : Below w.heap.size w w') : m.ok w' :=
  ⟨h.types.below (fun _ hd => ⟨hd.1.below b, hd.2.below b⟩) b, RowsOf.below (w := w) (w' := w') (ok := NamD.ok) (fun _ hd => hd) h.imports b, h.funcs.below (fun _ hd => ⟨hd.1, hd.2.1.below b, hd.2.2.1.below b, hd.2.2.2⟩) b, h.table, h.pages, h.most, RowsOf.below (w := w) (w' := w') (ok := GloD.ok) (fun _ hd => hd) h.globals b, RowsOf.below (w := w) (w' := w') (ok := NamD.ok) (fun _ hd => hd) h.exports b, h.start, h.elems.below (fun _ hd => ⟨hd.1, hd.2.below b⟩) b, RowsOf.below (w := w) (w' := w') (ok := DatD.ok) (fun _ hd => hd) h.data b⟩
end Go.Proofs.Ytfmmefmpjejioaa
