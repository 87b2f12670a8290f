import Derived.Test.YtmmjgdaamkdncaaGreatDoorAGNst
import Derived.ProofKit
import Derived.OpenShut
import Derived.ChangeSlices
import Derived.Deep.Slices
namespace Go.Proofs.YtmmjgdaamkdncaaGreatDoor
set_option linter.unusedVariables false
open Go.ChangeShapes Go.WideShapes Go.ChangeAt Go.RowKit Go.Deep
instance : Inhabited InsD := ⟨⟨0,0,0,none,0,0,[]⟩⟩
structure NumD where
 o : Option Addr
 n : Nat
 cap : Nat
 xs : List Int
def NumD.v (d : NumD) : Value := .slice d.o d.n d.cap
structure NumD.ok (k : IntKind) (w : World) (d : NumD) : Prop where
 le : d.n <= d.cap
 most : d.cap <= maxLen
 len : d.xs.length = d.n
 nil : d.o = none -> d.cap = 0
 wf : ∀ x ∈ d.xs,(Lit.int k x).wf = true
 at' : d.n = 0 \/ ∃ a : Addr,d.o = some a /\ a.block < w.heap.size /\ ∀ i,i < d.n -> w.cell? (a.add i) = some (.int k (d.xs.getD i 0))
theorem NumD.ok.below {k : IntKind} {w w' : World} {d : NumD} (h : d.ok k w) (b : Below w.heap.size w w') : d.ok k w' := by
 refine ⟨h.le,h.most,h.len,h.nil,h.wf,?_⟩
 rcases h.at' with h0 | ⟨a,h1,h2,h3⟩
 ·exact Or.inl h0
 ·refine Or.inr ⟨a,h1,Nat.lt_of_lt_of_le h2 b.size,fun i hi => ?_⟩
  rw [b.cell (p := a.add i) (by rw [xhA]; exact h2)]
  exact h3 i hi
structure RowsOf {α : Type} (w : World) (k : Nat) (cs : α -> List Value) (ok : World -> α -> Prop) (o : Option Addr) (cap : Nat) (L : List α) : Prop where
 le : L.length <= cap
 most : cap <= maxLen
 nil : o = none -> cap = 0
 all : ∀ d ∈ L,ok w d
 at' : L = [] \/ ∃ b f,o = some ⟨b,f,none⟩ /\ b < w.heap.size /\ ∀ i (h : i < L.length) r,r < k -> w.cell? ⟨b,f + i * k + r,none⟩ = (cs (L[i]))[r]?
theorem RowsOf.below {α : Type} {w w' : World} {k : Nat} {cs : α -> List Value} {ok : World -> α -> Prop} {o : Option Addr} {cap : Nat} {L : List α} (hok : ∀ d,ok w d -> ok w' d) (h : RowsOf w k cs ok o cap L) (b : Below w.heap.size w w') : RowsOf w' k cs ok o cap L := by
 refine ⟨h.le,h.most,h.nil,fun d hd => hok d (h.all d hd),?_⟩
 rcases h.at' with h0 | ⟨bb,f,h1,h2,h3⟩
 ·exact Or.inl h0
 ·refine Or.inr ⟨bb,f,h1,Nat.lt_of_lt_of_le h2 b.size,fun i hi r hr => ?_⟩
  rw [b.cell (p := ⟨bb,f + i * k + r,none⟩) h2]
  exact h3 i hi r hr
section
variable {H : Type} {enc : TypeId × Value -> H} {W : World}
end
section
variable {H : Type} {enc : TypeId × Value -> H} {W : World}
end
def inI (x : Int) : Prop := -9223372036854775808 <= x /\ x <= 9223372036854775807
structure SigD where
 i : NumD
 r : NumD
def SigD.cells (d : SigD) : List Value := [d.i.v,d.r.v]
def SigD.ok (w : World) (d : SigD) : Prop := d.i.ok .u8 w /\ d.r.ok .u8 w
structure NamD where
 s : ByteArray
 n : Int
def NamD.cells (d : NamD) : List Value := [.string d.s,.int .i64 d.n]
def NamD.ok (_ : World) (d : NamD) : Prop := d.s.size <= maxLen /\ inI d.n
structure FunD where
 t : Int
 l : NumD
 o : Option Addr
 cap : Nat
 b : List InsD
def FunD.cells (d : FunD) : List Value := [.int .i64 d.t,d.l.v,.slice d.o d.b.length d.cap]
def FunD.ok (w : World) (d : FunD) : Prop := inI d.t /\ d.l.ok .u8 w /\ LD w d.o d.b /\ d.b.length <= d.cap /\ d.cap <= maxLen
structure GloD where
 k : Int
 m : Bool
 s : Int
def GloD.cells (d : GloD) : List Value := [.int .u8 d.k,.bool d.m,.int .i64 d.s]
def GloD.ok (_ : World) (d : GloD) : Prop := 0 <= d.k /\ d.k <= 255 /\ inI d.s
structure EleD where
 a : Int
 f : NumD
def EleD.cells (d : EleD) : List Value := [.int .i64 d.a,d.f.v]
def EleD.ok (w : World) (d : EleD) : Prop := inI d.a /\ d.f.ok .i64 w
structure DatD where
 a : Int
 s : ByteArray
def DatD.cells (d : DatD) : List Value := [.int .i64 d.a,.string d.s]
def DatD.ok (_ : World) (d : DatD) : Prop := inI d.a /\ d.s.size <= maxLen
instance : Inhabited NumD := ⟨⟨none,0,0,[]⟩⟩
instance : Inhabited SigD := ⟨⟨default,default⟩⟩
instance : Inhabited NamD := ⟨⟨⟨#[]⟩,0⟩⟩
instance : Inhabited FunD := ⟨⟨0,default,none,0,[]⟩⟩
instance : Inhabited GloD := ⟨⟨0,false,0⟩⟩
instance : Inhabited EleD := ⟨⟨0,default⟩⟩
instance : Inhabited DatD := ⟨⟨0,⟨#[]⟩⟩⟩
section
variable {H : Type} {enc : TypeId × Value -> H} {W : World}
end
structure ModD where
 oT : Option Addr
 cT : Nat
 types : List SigD
 oI : Option Addr
 cI : Nat
 imports : List NamD
 oF : Option Addr
 cF : Nat
 funcs : List FunD
 table : Int
 pages : Int
 most : Int
 oG : Option Addr
 cG : Nat
 globals : List GloD
 oE : Option Addr
 cE : Nat
 exports : List NamD
 start : Int
 oL : Option Addr
 cL : Nat
 elems : List EleD
 oD : Option Addr
 cD : Nat
 data : List DatD
structure ModD.ok (w : World) (m : ModD) : Prop where
 types : RowsOf w 2 SigD.cells SigD.ok m.oT m.cT m.types
 imports : RowsOf w 2 NamD.cells NamD.ok m.oI m.cI m.imports
 funcs : RowsOf w 3 FunD.cells FunD.ok m.oF m.cF m.funcs
 table : inI m.table
 pages : inI m.pages
 most : inI m.most
 globals : RowsOf w 3 GloD.cells GloD.ok m.oG m.cG m.globals
 exports : RowsOf w 2 NamD.cells NamD.ok m.oE m.cE m.exports
 start : inI m.start
 elems : RowsOf w 2 EleD.cells EleD.ok m.oL m.cL m.elems
 data : RowsOf w 2 DatD.cells DatD.ok m.oD m.cD m.data
theorem ModD.ok.below {w w' : World} {m : ModD} (h : m.ok w) (b : Below w.heap.size w w') : m.ok w' :=
 ⟨h.types.below (fun _ hd => ⟨hd.1.below b,hd.2.below b⟩) b,RowsOf.below (w := w) (w' := w') (ok := NamD.ok) (fun _ hd => hd) h.imports b,h.funcs.below (fun _ hd => ⟨hd.1,hd.2.1.below b,hd.2.2.1.below b,hd.2.2.2⟩) b,h.table,h.pages,h.most,RowsOf.below (w := w) (w' := w') (ok := GloD.ok) (fun _ hd => hd) h.globals b,RowsOf.below (w := w) (w' := w') (ok := NamD.ok) (fun _ hd => hd) h.exports b,h.start,h.elems.below (fun _ hd => ⟨hd.1,hd.2.below b⟩) b,RowsOf.below (w := w) (w' := w') (ok := DatD.ok) (fun _ hd => hd) h.data b⟩
end Go.Proofs.YtmmjgdaamkdncaaGreatDoor
