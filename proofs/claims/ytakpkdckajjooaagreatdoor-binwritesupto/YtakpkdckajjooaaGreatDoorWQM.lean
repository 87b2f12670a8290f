/-
 What the reading and the writing of a module say, over lists of bytes: plain mathematics.
 The parts of a module as bytes: plain mathematics.
 A module as bytes: its sections: plain mathematics.
-/
import Derived.Test.YtakpkdckajjooaaGreatDoorWNQ
import Derived.Test.YtakpkdckajjooaaGreatDoorWQA
import Derived.Lib.ValidU
namespace Go.Proofs.YtakpkdckajjooaaGreatDoor
set_option linter.unusedVariables false
open Go.RowKit
abbrev Rd (α : Type) := List Int → Except Int (α × List Int)
def nxt {α β : Type} (x : Rd α) (f : α → Rd β) : Rd β := fun l => match x l with
 | .error e => .error e
 | .ok (a, r) => f a r
def ret {α : Type} (a : α) : Rd α := fun l => .ok (a, l)
def need (b : Bool) (e : Int) : Rd Unit := fun l => if b = true then .ok ((), l) else .error e
def Bts (l : List Int) : Prop := ∀ b ∈ l, 0 ≤ b ∧ b < 256
def rNext : Rd Int
 | [] => .error 3
 | b :: r => .ok (b, r)
def rFix (want e : Int) : Rd Unit := nxt rNext fun b => need (b == want) e
def rNum : Rd Int := fun l => if (rU 32 l).2.2 = 0 then .ok ((rU 32 l).1, l.drop (rU 32 l).2.1.toNat) else .error (rU 32 l).2.2
def rSgn (B : Int) : Rd Int := fun l => if (rS B l).2.2 = 0 then .ok ((rS B l).1, l.drop (rS B l).2.1.toNat) else .error (rS B l).2.2
def rPiece (n : Int) : Rd (List Int) := fun l => if n ≤ (l.length : Int) then .ok (l.take n.toNat, l.drop n.toNat) else .error 3
def rCount (most : Int) : Rd Int := nxt rNum fun n => nxt (need (decide (n ≤ most)) 2) fun _ => ret n
def isSgn (B x : Int) : Prop := (B = 32 ∧ -2147483648 ≤ x ∧ x ≤ 2147483647) ∨ (B = 64 ∧ -9223372036854775808 ≤ x ∧ x ≤ 9223372036854775807)
def rTimes {α : Type} (p : Rd α) : Nat → List α → Rd (List α)
 | 0, acc => fun l => .ok (acc, l)
 | n + 1, acc => fun l => match p l with
  | .error e => .error e
  | .ok (a, r) => rTimes p n (acc ++ [a]) r
def rList {α : Type} (most : Int) (p : Rd α) : Rd (List α) := nxt (rCount most) fun n => rTimes p n.toNat []
def tList {α : Type} (t : α → List Int) (L : List α) : List Int := uB L.length ++ L.flatMap t
theorem tList_pos {α : Type} (t : α → List Int) (L : List α) : tList t L ≠ [] := by
 unfold tList
 intro h
 have := uB_pos L.length
 rw [List.append_eq_nil_iff] at h
 rw [h.1] at this
 simp at this
end Go.Proofs.YtakpkdckajjooaaGreatDoor
namespace Go.Proofs.YtakpkdckajjooaaGreatDoor
set_option linter.unusedVariables false
open Go.RowKit
structure SigV where
 i : List Int
 o : List Int
structure NamV where
 s : List Int
 n : Int
structure GloV where
 k : Int
 m : Bool
 s : Int
structure EleV where
 a : Int
 f : List Int
structure DatV where
 a : Int
 s : List Int
structure CodV where
 l : List Int
 b : List V4
def isK (k : Int) : Bool := k == 127 || k == 126
def rKind : Rd Int := nxt rNext fun k => nxt (need (isK k) 6) fun _ => ret k
theorem isK_or {k : Int} (h : isK k = true) : k = 127 ∨ k = 126 := by
 unfold isK at h
 simpa using h
def txt (l : List Int) : List UInt8 := l.map fun n => UInt8.ofNat n.toNat
def okName (s : List Int) : Bool := Lib.validD (txt s)
def rName : Rd (List Int) := nxt (rCount 16) fun n => nxt (rPiece n) fun s => nxt (need (okName s) 4) fun _ => ret s
def GName (s : List Int) : Prop := s.length ≤ 16 ∧ Bts s ∧ okName s = true
def tName (s : List Int) : List Int := uB s.length ++ s
def rSig : Rd SigV := nxt (rFix 96 4) fun _ => nxt (rList 4 rKind) fun i => nxt (rList 1 rKind) fun o => ret ⟨i, o⟩
def GKs (most : Int) (l : List Int) : Prop := (l.length : Int) ≤ most ∧ ∀ k ∈ l, isK k = true
def tKs (l : List Int) : List Int := tList (fun k => [k]) l
def GSig (s : SigV) : Prop := GKs 4 s.i ∧ GKs 1 s.o
def tSig (s : SigV) : List Int := 96 :: (tKs s.i ++ tKs s.o)
def host : List Int := [104, 111, 115, 116]
def rImp : Rd NamV := nxt rName fun h => nxt (need (h == host) 6) fun _ => nxt rName fun s => nxt (rFix 0 6) fun _ => nxt rNum fun n => ret ⟨s, n⟩
def GNam (d : NamV) : Prop := GName d.s ∧ isNum d.n
def tExp (d : NamV) : List Int := tName d.s ++ 0 :: uB d.n.toNat
def tImp (d : NamV) : List Int := tName host ++ tExp d
theorem okHost : GName host := by
 refine ⟨by decide, fun b hb => by simp [host] at hb; omega, ?_⟩
 decide +kernel
def rExp : Rd NamV := nxt rName fun s => nxt (rFix 0 6) fun _ => nxt rNum fun n => ret ⟨s, n⟩
def cst (k : Int) : Int := if k = 126 then 66 else 65
def bts (k : Int) : Int := if k = 126 then 64 else 32
def rGlo : Rd GloV := nxt rKind fun k => nxt rNext fun m => nxt (need (decide (m ≤ 1)) 4) fun _ => nxt rNext fun op => nxt (need (op == 65 || op == 66) 6) fun _ => nxt (need (op == cst k) 4) fun _ => nxt (rSgn (bts k)) fun s => nxt (rFix 11 4) fun _ => ret ⟨k, m == 1, s⟩
def GGlo (g : GloV) : Prop := isK g.k = true ∧ isSgn (bts g.k) g.s
def tGlo (g : GloV) : List Int := g.k :: (if g.m then 1 else 0) :: cst g.k :: (sB g.s ++ [11])
def rPlace : Rd Int := nxt (rFix 0 6) fun _ => nxt (rFix 65 6) fun _ => nxt (rSgn 32) fun a => nxt (rFix 11 4) fun _ => ret a
def tPlace (a : Int) : List Int := 0 :: 65 :: (sB a ++ [11])
def rEle : Rd EleV := nxt rPlace fun a => nxt (rList 16 rNum) fun f => ret ⟨a, f⟩
def GNs (most : Int) (l : List Int) : Prop := (l.length : Int) ≤ most ∧ ∀ k ∈ l, isNum k
def tNs (l : List Int) : List Int := tList (fun n => uB n.toNat) l
def GEle (e : EleV) : Prop := isSgn 32 e.a ∧ GNs 16 e.f
def tEle (e : EleV) : List Int := tPlace e.a ++ tNs e.f
def rDat : Rd DatV := nxt rPlace fun a => nxt (rCount 64) fun n => nxt (rPiece n) fun s => ret ⟨a, s⟩
def GDat (d : DatV) : Prop := isSgn 32 d.a ∧ d.s.length ≤ 64 ∧ Bts d.s
def tDat (d : DatV) : List Int := tPlace d.a ++ tName d.s
def alone {α : Type} (p : Rd α) (c : List Int) : Except Int α := match p c with
 | .error e => .error e
 | .ok (v, r) => if r = [] then .ok v else .error 4
def rInner {α : Type} (p : Rd α) : Rd α := nxt rNum fun n => nxt (rPiece n) fun s l => match alone p s with
 | .error e => .error e
 | .ok v => .ok (v, l)
def gstep : List (Nat × Int) → Int → List (Nat × Int)
 | [], k => [(1, k)]
 | (n, j) :: g, k => if k = j then (n + 1, j) :: g else (1, k) :: (n, j) :: g
def grpR (l : List Int) : List (Nat × Int) := l.foldl gstep []
def grp (l : List Int) : List (Nat × Int) := (grpR l).reverse
def rGrps : Nat → List Int → Rd (List Int)
 | 0, acc => fun l => .ok (acc, l)
 | n + 1, acc => nxt rNum fun sz => nxt rKind fun k => nxt (need (decide ((acc.length : Int) + sz ≤ 16)) 2) fun _ => rGrps n (acc ++ List.replicate sz.toNat k)
def tGrp (x : Nat × Int) : List Int := uB x.1 ++ [x.2]
def rBody : Rd (List V4) := fun l => if (nRd 200 l []).1 = 0 then .ok ((nRd 200 l []).2.1, (nRd 200 l []).2.2) else .error (nRd 200 l []).1
def GBody (V : List V4) : Prop := V.length ≤ 200 ∧ (∀ v ∈ V, v.rng ∧ 0 ≤ v.op ∧ v.op ≤ 255) ∧ (vRun V [] false).1 = 0 ∧ (vRun V [] false).2.2 = true
def tLocs (l : List Int) : List Int := uB (grp l).length ++ (grp l).flatMap tGrp
def cCode (c : CodV) : List Int := tLocs c.l ++ bodyT c.b
def rFun : Rd CodV := nxt (rCount 16) fun n => nxt (rGrps n.toNat []) fun l => nxt rBody fun b => ret ⟨l, b⟩
def rCode : Rd CodV := rInner rFun
def GCod (c : CodV) : Prop := GKs 16 c.l ∧ GBody c.b
def tCode (c : CodV) : List Int := uB (cCode c).length ++ cCode c
end Go.Proofs.YtakpkdckajjooaaGreatDoor
namespace Go.Proofs.YtakpkdckajjooaaGreatDoor
set_option linter.unusedVariables false
open Go.RowKit
structure DrV where
 types : List SigV
 imports : List NamV
 ftypes : List Int
 table : Int
 pages : Int
 most : Int
 globals : List GloV
 exports : List NamV
 start : Int
 elems : List EleV
 codes : List CodV
 data : List DatV
def rTable : Rd Int := nxt (rCount 1) fun n => if n = 0 then ret 0 else nxt (rFix 112 6) fun _ => nxt (rFix 0 6) fun _ => rCount 16
def rMem : Rd (Int × Int) := nxt (rCount 1) fun n => if n = 0 then ret (0, 0) else nxt (rFix 1 6) fun _ => nxt rNum fun p => nxt (rCount 8) fun m => nxt (need (decide (p ≤ m)) 4) fun _ => ret (p, m)
def rStart : Rd Int := nxt rNum fun n => nxt (need (decide (n < 4294967295)) 4) fun _ => ret (n + 1)
def rFill (n : Nat) (d : DrV) : Rd DrV := match n with
 | 1 => nxt (rList 16 rSig) fun x => ret { d with types := x }
 | 2 => nxt (rList 16 rImp) fun x => ret { d with imports := x }
 | 3 => nxt (rList 16 rNum) fun x => ret { d with ftypes := x }
 | 4 => nxt rTable fun x => ret { d with table := x }
 | 5 => nxt rMem fun x => ret { d with pages := x.1, most := x.2 }
 | 6 => nxt (rList 8 rGlo) fun x => ret { d with globals := x }
 | 7 => nxt (rList 8 rExp) fun x => ret { d with exports := x }
 | 8 => nxt rStart fun x => ret { d with start := x }
 | 9 => nxt (rList 4 rEle) fun x => ret { d with elems := x }
 | 10 => nxt (rList 16 rCode) fun x => ret { d with codes := x }
 | 11 => nxt (rList 4 rDat) fun x => ret { d with data := x }
 | _ => ret d
def lst {α : Type} (t : α → List Int) (L : List α) : List Int := if L.isEmpty = true then [] else tList t L
def secC (n : Nat) (d : DrV) : List Int := match n with
 | 1 => lst tSig d.types
 | 2 => lst tImp d.imports
 | 3 => lst (fun n => uB n.toNat) d.ftypes
 | 4 => if d.table = 0 then [] else uB 1 ++ 112 :: 0 :: uB d.table.toNat
 | 5 => if d.most = 0 then [] else uB 1 ++ 1 :: (uB d.pages.toNat ++ uB d.most.toNat)
 | 6 => lst tGlo d.globals
 | 7 => lst tExp d.exports
 | 8 => if d.start = 0 then [] else uB (d.start - 1).toNat
 | 9 => lst tEle d.elems
 | 10 => lst tCode d.codes
 | 11 => lst tDat d.data
 | _ => []
def GL {α : Type} (most : Int) (G : α → Prop) (L : List α) : Prop := (L.length : Int) ≤ most ∧ ∀ a ∈ L, G a
def GSec (n : Nat) (d : DrV) : Prop := match n with
 | 1 => GL 16 GSig d.types
 | 2 => GL 16 GNam d.imports
 | 3 => GL 16 isNum d.ftypes
 | 4 => 0 ≤ d.table ∧ d.table ≤ 16
 | 5 => 0 ≤ d.pages ∧ d.pages ≤ d.most ∧ d.most ≤ 8
 | 6 => GL 8 GGlo d.globals
 | 7 => GL 8 GNam d.exports
 | 8 => 0 ≤ d.start ∧ d.start ≤ 4294967295
 | 9 => GL 4 GEle d.elems
 | 10 => GL 16 GCod d.codes
 | 11 => GL 4 GDat d.data
 | _ => True
def secT (n : Nat) (d : DrV) : List Int := if (secC n d).isEmpty = true then [] else (n : Int) :: (uB (secC n d).length ++ secC n d)
def tailT (m : DrV) : Nat → List Int
 | 0 => []
 | k + 1 => secT (11 - k) m ++ tailT m k
theorem secT_nil {n : Nat} {d : DrV} (h : secC n d = []) : secT n d = [] := by
 unfold secT
 rw [h]
 rfl
theorem secT_some {n : Nat} {d : DrV} (h : secC n d ≠ []) : secT n d = (n : Int) :: (uB (secC n d).length ++ secC n d) := by
 unfold secT
 rw [if_neg (by rw [List.isEmpty_iff]; exact h)]
def head8 : List Int := [0, 97, 115, 109, 1, 0, 0, 0]
def tMod (d : DrV) : List Int := head8 ++ tailT d 11
def GMod (d : DrV) : Prop := (∀ n, 1 ≤ n → n ≤ 11 → GSec n d) ∧ d.ftypes.length = d.codes.length
end Go.Proofs.YtakpkdckajjooaaGreatDoor
