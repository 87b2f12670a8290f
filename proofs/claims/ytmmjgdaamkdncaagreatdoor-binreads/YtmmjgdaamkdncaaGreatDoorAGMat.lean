import Derived.Test.YtmmjgdaamkdncaaGreatDoorAGNst
namespace Go.Proofs.YtmmjgdaamkdncaaGreatDoor
set_option linter.unusedVariables false
open Go.RowKit
theorem Tryz.infoInt : (Tryz.prog.info? 3).map (fun i => (i.zero,i.size,i.bytes)) = some (some (.int .i64 0),1,8) := by kernel_rfl
section
variable {w wr w' : World} {gE gS n : Nat} {op : List Nat} {E S : List Int} {o : Option Addr} {cap : Nat}
theorem xdI {w1 w2 : World} {base k : Nat} {v : Value} {xs : List Value} (h : w1.ownsRow base 3 1 v k xs) (b : Below w1.heap.size w1 w2) : w2.ownsRow base 3 1 v k xs :=
 h.kept (row := none) ⟨b.os,b.tape,b.output,b.size,fun k hk _ => b.block k hk⟩ (by cases hv : v.ownBlock <;> simp)
theorem xhE {P k c : Nat} (h : ∀ g,o = some g -> g.block ≠ P) : (Value.slice o k c).ownBlock ≠ some P := by
 cases o with
 | none => simp [Value.ownBlock]
 | some g => simpa [Value.ownBlock] using h g rfl
end
def ykU (E S : List Int) (f t : Nat) : List Int := if S.getD f 0 = -1 then (E.set f (t : Int)).set t (f : Int) else ((E.set f (t : Int)).set t (f : Int)).set (S.getD f 0).toNat (t : Int)
def xjX (k : Nat) (op : Int) (q : List Nat × List Int × List Int) : List Nat × List Int × List Int :=
 if op = 2 \/ op = 3 \/ op = 4 then (q.1 ++ [k],q.2.1,q.2.2)
 else if op = 5 then (match q.1.getLast? with | some f => (q.1,q.2.1,(q.2.2.set k (f : Int)).set f (k : Int)) | none => q)
 else if op = 11 then (match q.1.getLast? with | some f => (q.1.dropLast,ykU q.2.1 q.2.2 f k,q.2.2) | none => q)
 else q
def ybA : Nat -> List InsD -> List Nat × List Int × List Int -> List Nat × List Int × List Int
 | _,[],q => q
 | k,d :: L,q => ybA (k + 1) L (xjX k d.op q)
theorem xrG (ini : List Int) (x : Int) : xaH 0 11 (ini ++ [x]) false = (0,ini,false) := by
 unfold xaH
 rw [if_neg (by simp),if_neg (by simp),if_neg (by omega),if_neg (by omega),if_pos rfl,List.dropLast_concat]
 cases ini <;> rfl
theorem xgQ (S : List Int) (i j : Nat) (v : Int) : (S.set i v).getD j 0 = if i = j /\ j < S.length then v else S.getD j 0 := by
 rw [List.getD_eq_getElem?_getD,List.getElem?_set,List.getD_eq_getElem?_getD]
 by_cases h : i = j
 ·subst h
  by_cases h2 : i < S.length
  ·simp [h2]
  ·simp [h2]
 ·simp [h]
def isO (x : Int) : Prop := x = 2 \/ x = 3 \/ x = 4
def OpK (ops : Nat -> Int) (k : Nat) (S : List Int) (x : Nat × Int) : Prop :=
 isO (ops x.1) /\ x.1 < k /\ ((x.2 = 5 /\ ops x.1 = 4 /\ ∃ h : Nat,S.getD x.1 0 = (h : Int) /\ x.1 < h /\ h < k /\ ops h = 5 /\ S.getD h 0 = (x.1 : Int)) \/ (x.2 = ops x.1 /\ S.getD x.1 0 = -1))
def ClK (ops : Nat -> Int) (k : Nat) (E S : List Int) (p q : Nat) : Prop :=
 E.getD p 0 = (q : Int) /\ p < q /\ q < k /\ ops q = 11 /\ E.getD q 0 = (p : Int) /\ (S.getD p 0 = -1 \/ ∃ h : Nat,S.getD p 0 = (h : Int) /\ p < h /\ h < q /\ ops p = 4 /\ ops h = 5 /\ S.getD h 0 = (p : Int) /\ E.getD h 0 = (q : Int))
structure Inv (ops : Nat -> Int) (n k : Nat) (st : List (Nat × Int)) (E S : List Int) : Prop where
 lenE : E.length = n
 lenS : S.length = n
 kn : k <= n
 sorted : (st.map Prod.fst).Pairwise (· < ·)
 kind : ∀ x ∈ st,OpK ops k S x
 closed : ∀ p,p < k -> isO (ops p) -> p ∉ st.map Prod.fst -> ∃ q,ClK ops k E S p q
 nest : ∀ p1 p2,p1 < p2 -> p2 < k -> isO (ops p1) -> isO (ops p2) -> p1 ∉ st.map Prod.fst -> (p2 ∈ st.map Prod.fst -> E.getD p1 0 < (p2 : Int)) /\ (p2 ∉ st.map Prod.fst -> E.getD p2 0 < E.getD p1 0 \/ E.getD p1 0 < (p2 : Int))
 fresh : ∀ p,k <= p -> p < n -> S.getD p 0 = -1
section
variable {ops : Nat -> Int} {n k : Nat} {st ini : List (Nat × Int)} {E S : List Int}
end
def xdC (L : List InsD) (i : Nat) : Int := (L.map InsD.op).getD i 0
theorem xhK (L : List InsD) (i : Nat) (h : i < L.length) : xdC L i = (L[i]).op := by
 unfold xdC
 rw [List.getD_eq_getElem?_getD,List.getElem?_map,List.getElem?_eq_getElem h]
 rfl
def xfE (L : List InsD) : List Nat × List Int × List Int := ybA 0 L ([],List.replicate L.length (-1),List.replicate L.length (-1))
theorem LD.cellOp {w : World} {o : Option Addr} {L : List InsD} (h : LD w o L) (i : Nat) (hi : i < L.length) : ∃ b f,o = some ⟨b,f,none⟩ /\ w.cell? ⟨b,f + i * 4,none⟩ = some (.int .u8 (xdC L i)) := by
 rcases h.2 with h0 | ⟨b,f,e,_,hc⟩
 ·rw [h0] at hi; simp at hi
 ·exact ⟨b,f,e,by rw [xhK L i hi]; exact (hc i hi).1⟩
end Go.Proofs.YtmmjgdaamkdncaaGreatDoor
