import Derived.Test.YtmmjgdaamkdncaaGreatDoorAQA
import Derived.Lib.ValidU
namespace Go.Proofs.YtmmjgdaamkdncaaGreatDoor
set_option linter.unusedVariables false
open Go.RowKit
abbrev Rd (α : Type) := List Int -> Except Int (α × List Int)
def nxt {α β : Type} (x : Rd α) (f : α -> Rd β) : Rd β := fun l => match x l with
 | .error e => .error e
 | .ok (a,r) => f a r
def ret {α : Type} (a : α) : Rd α := fun l => .ok (a,l)
def need (b : Bool) (e : Int) : Rd Unit := fun l => if b = true then .ok ((),l) else .error e
def Bts (l : List Int) : Prop := ∀ b ∈ l,0 <= b /\ b < 256
theorem Bts.suf {l r : List Int} (h : Bts l) (hs : r <:+ l) : Bts r := fun b hb => h b (hs.subset hb)
theorem xaJ {α β : Type} {x : Rd α} {f : α -> Rd β} {l : List Int} {b : β} {r : List Int} (h : nxt x f l = .ok (b,r)) : ∃ a r1,x l = .ok (a,r1) /\ f a r1 = .ok (b,r) := by
 unfold nxt at h
 cases hx : x l with
 | error e => rw [hx] at h; cases h
 | ok p => obtain ⟨a,r1⟩ := p; rw [hx] at h; exact ⟨a,r1,rfl,h⟩
theorem xaV {α β : Type} {x : Rd α} {f : α -> Rd β} {l : List Int} {a : α} {r : List Int} (h : x l = .ok (a,r)) : nxt x f l = f a r := by
 unfold nxt
 rw [h]
theorem xaW {α β : Type} {x : Rd α} {f : α -> Rd β} {l : List Int} {e : Int} (h : x l = .error e) : nxt x f l = .error e := by
 unfold nxt
 rw [h]
theorem xcI {b : Bool} {e : Int} {l r : List Int} {u : Unit} (h : need b e l = .ok (u,r)) : b = true /\ r = l := by
 unfold need at h
 cases b with
 | true => simp at h; exact ⟨rfl,h.symm⟩
 | false => simp at h
theorem xdU {b : Bool} (h : b = true) (e : Int) (l : List Int) : need b e l = .ok ((),l) := by rw [h]; rfl
structure Cod {α : Type} (p : Rd α) (G : α -> Prop) (t : α -> List Int) : Prop where
 ok : ∀ l a r,Bts l -> p l = .ok (a,r) -> G a /\ r <:+ l /\ (t a).length + r.length <= l.length
def xfH : Rd Int
 | [] => .error 3
 | b :: r => .ok (b,r)
def xfX (want e : Int) : Rd Unit := nxt xfH fun b => need (b == want) e
def xeG : Rd Int := fun l => if (rU 32 l).2.2 = 0 then .ok ((rU 32 l).1,l.drop (rU 32 l).2.1.toNat) else .error (rU 32 l).2.2
def xmO (B : Int) : Rd Int := fun l => if (rS B l).2.2 = 0 then .ok ((rS B l).1,l.drop (rS B l).2.1.toNat) else .error (rS B l).2.2
def xbR (n : Int) : Rd (List Int) := fun l => if n <= (l.length : Int) then .ok (l.take n.toNat,l.drop n.toNat) else .error 3
def xbX (most : Int) : Rd Int := nxt xeG fun n => nxt (need (decide (n <= most)) 2) fun _ => ret n
theorem xjT {l r : List Int} {b : Int} (h : xfH l = .ok (b,r)) : l = b :: r := by
 cases l with
 | nil => cases h
 | cons c l => simp only [xfH,Except.ok.injEq,Prod.mk.injEq] at h; rw [h.1,h.2]
theorem xfG {want e : Int} {l r : List Int} {u : Unit} (h : xfX want e l = .ok (u,r)) : l = want :: r := by
 obtain ⟨b,r1,h1,h2⟩ := xaJ h
 obtain ⟨h3,rfl⟩ := xcI h2
 rw [xjT h1,eq_of_beq h3]
theorem cod_num : Cod xeG xfT fun n => uB n.toNat := by
 constructor
 ·intro l a r hl h
  unfold xeG at h
  split at h
  ·rename_i h0
   simp only [Except.ok.injEq,Prod.mk.injEq] at h
   obtain ⟨rfl,rfl⟩ := h
   have hm : (xaT l 0).2.2 = 0 := by unfold xaT; rw [if_pos h0]
   have e1 : (xaT l 0).1 = (rU 32 l).1 := by unfold xaT; rw [if_pos h0]
   have e2 : (xaT l 0).2.1 = l.drop (rU 32 l).2.1.toNat := by unfold xaT; rw [if_pos h0]
   obtain ⟨_,q2,k,q3,q4,q5⟩ := xfD l 0 hl hm
   rw [e1] at q2 q3
   rw [<- e2,q5]
   exact ⟨q2,List.drop_suffix _ _,by rw [List.length_drop]; omega⟩
  ·cases h
def xtA (B x : Int) : Prop := (B = 32 /\ -2147483648 <= x /\ x <= 2147483647) \/ (B = 64 /\ -9223372036854775808 <= x /\ x <= 9223372036854775807)
theorem xnU (B : Int) (hB : B = 32 \/ B = 64) : Cod (xmO B) (xtA B) sB := by
 constructor
 ·intro l a r hl h
  unfold xmO at h
  split at h
  ·rename_i h0
   simp only [Except.ok.injEq,Prod.mk.injEq] at h
   obtain ⟨rfl,rfl⟩ := h
   have hm : (xcR B l 0).2.2 = 0 := by unfold xcR; rw [if_pos h0]
   have e1 : (xcR B l 0).1 = (rS B l).1 := by unfold xcR; rw [if_pos h0]
   have e2 : (xcR B l 0).2.1 = l.drop (rS B l).2.1.toNat := by unfold xcR; rw [if_pos h0]
   obtain ⟨_,q2,_,k,q3,q4,q5⟩ := xqT B hB l 0 hl hm
   rw [e1] at q2 q3
   rw [<- e2,q5]
   refine ⟨?_,List.drop_suffix _ _,by rw [List.length_drop]; omega⟩
   rcases hB with rfl | rfl
   ·exact Or.inl ⟨rfl,xlG l hl⟩
   ·exact Or.inr ⟨rfl,q2⟩
  ·cases h
theorem xoY {n : Int} {l a r : List Int} (hn : 0 <= n) (h : xbR n l = .ok (a,r)) : l = a ++ r /\ (a.length : Int) = n := by
 unfold xbR at h
 split at h
 ·rename_i h0
  simp only [Except.ok.injEq,Prod.mk.injEq] at h
  obtain ⟨rfl,rfl⟩ := h
  exact ⟨(List.take_append_drop _ _).symm,by rw [List.length_take]; omega⟩
 ·cases h
theorem xbM (most : Int) (hm : most <= 4294967295) : Cod (xbX most) (fun n => 0 <= n /\ n <= most) fun n => uB n.toNat := by
 constructor
 ·intro l a r hl h
  obtain ⟨n,r1,h1,h2⟩ := xaJ h
  obtain ⟨_,r2,h3,h4⟩ := xaJ h2
  obtain ⟨h5,rfl⟩ := xcI h3
  simp only [ret,Except.ok.injEq,Prod.mk.injEq] at h4
  obtain ⟨rfl,rfl⟩ := h4
  obtain ⟨q1,q2,q3⟩ := cod_num.ok _ _ _ hl h1
  exact ⟨⟨q1.1,of_decide_eq_true h5⟩,q2,q3⟩
def xaS {α : Type} (p : Rd α) : Nat -> List α -> Rd (List α)
 | 0,acc => fun l => .ok (acc,l)
 | n + 1,acc => fun l => match p l with
  | .error e => .error e
  | .ok (a,r) => xaS p n (acc ++ [a]) r
def xbP {α : Type} (most : Int) (p : Rd α) : Rd (List α) := nxt (xbX most) fun n => xaS p n.toNat []
def xzU {α : Type} (t : α -> List Int) (L : List α) : List Int := uB L.length ++ L.flatMap t
theorem xoZ {α : Type} {p : Rd α} {G : α -> Prop} {t : α -> List Int} (C : Cod p G t) : ∀ (n : Nat) (acc : List α) (l : List Int) (L : List α) (r : List Int),Bts l -> xaS p n acc l = .ok (L,r) -> ∃ K,L = acc ++ K /\ K.length = n /\ (∀ a ∈ K,G a) /\ r <:+ l /\ (K.flatMap t).length + r.length <= l.length
 | 0,acc,l,L,r,_,h => by
  simp only [xaS,Except.ok.injEq,Prod.mk.injEq] at h
  obtain ⟨rfl,rfl⟩ := h
  exact ⟨[],by simp,rfl,by simp,List.suffix_refl _,by simp⟩
 | n + 1,acc,l,L,r,hl,h => by
  rw [xaS] at h
  dsimp only at h
  cases hp : p l with
  | error e => rw [hp] at h; cases h
  | ok x =>
   obtain ⟨a,r1⟩ := x
   rw [hp] at h
   obtain ⟨g1,g2,g3⟩ := C.ok _ _ _ hl hp
   obtain ⟨K,q1,q2,q3,q4,q5⟩ := xoZ C n _ r1 L r (hl.suf g2) h
   refine ⟨a :: K,by rw [q1]; simp,by simp [q2],?_,q4.trans g2,?_⟩
   ·intro b hb
    rw [List.mem_cons] at hb
    rcases hb with rfl | hb
    ·exact g1
    ·exact q3 b hb
   ·rw [List.flatMap_cons,List.length_append]
    omega
theorem ybY {α : Type} {p : Rd α} {G : α -> Prop} {t : α -> List Int} (C : Cod p G t) (most : Int) (hm : most <= 4294967295) : Cod (xbP most p) (fun L => (L.length : Int) <= most /\ ∀ a ∈ L,G a) (xzU t) := by
 constructor
 ·intro l L r hl h
  obtain ⟨n,r1,h1,h2⟩ := xaJ h
  obtain ⟨g1,g2,g3⟩ := (xbM most hm).ok _ _ _ hl h1
  obtain ⟨K,q1,q2,q3,q4,q5⟩ := xoZ C _ _ _ _ _ (hl.suf g2) h2
  rw [List.nil_append] at q1
  subst q1
  refine ⟨⟨by omega,q3⟩,q4.trans g2,?_⟩
  unfold xzU
  rw [List.length_append,q2]
  omega
structure SigV where
 i : List Int
 o : List Int
structure NamV where
 s : List Int
 n : Int
structure GloV where
 k : Int
 m : Bool
 s : Int
structure EleV where
 a : Int
 f : List Int
structure DatV where
 a : Int
 s : List Int
structure CodV where
 l : List Int
 b : List V4
def isK (k : Int) : Bool := k == 127 || k == 126
def xgN : Rd Int := nxt xfH fun k => nxt (need (isK k) 6) fun _ => ret k
theorem xlA {k : Int} (h : isK k = true) : k = 127 \/ k = 126 := by
 unfold isK at h
 simpa using h
theorem cod_kind : Cod xgN (fun k => isK k = true) fun k => [k] := by
 constructor
 ·intro l a r hl h
  obtain ⟨n,r1,h1,h2⟩ := xaJ h
  obtain ⟨_,r2,h3,h4⟩ := xaJ h2
  obtain ⟨h5,rfl⟩ := xcI h3
  simp only [ret,Except.ok.injEq,Prod.mk.injEq] at h4
  obtain ⟨rfl,rfl⟩ := h4
  rw [xjT h1]
  exact ⟨h5,List.suffix_cons _ _,by simp; omega⟩
def txt (l : List Int) : List UInt8 := l.map fun n => UInt8.ofNat n.toNat
def xrL (s : List Int) : Bool := Lib.validD (txt s)
def xdV : Rd (List Int) := nxt (xbX 16) fun n => nxt (xbR n) fun s => nxt (need (xrL s) 4) fun _ => ret s
def ykW (s : List Int) : Prop := s.length <= 16 /\ Bts s /\ xrL s = true
def xsF (s : List Int) : List Int := uB s.length ++ s
theorem cod_name : Cod xdV ykW xsF := by
 constructor
 ·intro l a r hl h
  obtain ⟨n,r1,h1,h2⟩ := xaJ h
  obtain ⟨s,r2,h3,h4⟩ := xaJ h2
  obtain ⟨_,r3,h5,h6⟩ := xaJ h4
  obtain ⟨h7,rfl⟩ := xcI h5
  simp only [ret,Except.ok.injEq,Prod.mk.injEq] at h6
  obtain ⟨rfl,rfl⟩ := h6
  obtain ⟨g1,g2,g3⟩ := (xbM 16 (by omega)).ok _ _ _ hl h1
  obtain ⟨h8,h9⟩ := xoY g1.1 h3
  have hb := hl.suf g2
  refine ⟨⟨by omega,fun b hb' => hb b (by rw [h8]; simp [hb']),h7⟩,List.IsSuffix.trans ⟨s,h8.symm⟩ g2,?_⟩
  unfold xsF
  rw [h8,List.length_append] at g3
  rw [List.length_append,show s.length = n.toNat by omega]
  omega
def xvI : Rd SigV := nxt (xfX 96 4) fun _ => nxt (xbP 4 xgN) fun i => nxt (xbP 1 xgN) fun o => ret ⟨i,o⟩
def yaN : List Int := [104,111,115,116]
def xpE : Rd NamV := nxt xdV fun h => nxt (need (h == yaN) 6) fun _ => nxt xdV fun s => nxt (xfX 0 6) fun _ => nxt xeG fun n => ret ⟨s,n⟩
def ymQ (d : NamV) : Prop := ykW d.s /\ xfT d.n
def ykI (d : NamV) : List Int := xsF d.s ++ 0 :: uB d.n.toNat
def ymL (d : NamV) : List Int := xsF yaN ++ ykI d
def xtP : Rd NamV := nxt xdV fun s => nxt (xfX 0 6) fun _ => nxt xeG fun n => ret ⟨s,n⟩
theorem cod_exp : Cod xtP ymQ ykI := by
 constructor
 ·intro l a r hl h
  obtain ⟨s,r1,h1,h2⟩ := xaJ h
  obtain ⟨_,r2,h3,h4⟩ := xaJ h2
  obtain ⟨n,r3,h5,h6⟩ := xaJ h4
  simp only [ret,Except.ok.injEq,Prod.mk.injEq] at h6
  obtain ⟨rfl,rfl⟩ := h6
  obtain ⟨g1,g2,g3⟩ := cod_name.ok _ _ _ hl h1
  have e1 := xfG h3
  have b1 : r2 <:+ r1 := by rw [e1]; exact List.suffix_cons _ _
  obtain ⟨k1,k2,k3⟩ := cod_num.ok _ _ _ (hl.suf (b1.trans g2)) h5
  refine ⟨⟨g1,k1⟩,k2.trans (b1.trans g2),?_⟩
  have e2 : r1.length = r2.length + 1 := by rw [e1]; rfl
  unfold ykI
  rw [List.length_append,List.length_cons]
  dsimp only
  omega
theorem ycA (l : List Int) : xpE l = nxt xdV (fun h => nxt (need (h == yaN) 6) fun _ => xtP) l := rfl
theorem cod_imp : Cod xpE ymQ ymL := by
 constructor
 ·intro l a r hl h
  rw [ycA] at h
  obtain ⟨s,r1,h1,h2⟩ := xaJ h
  obtain ⟨_,r2,h3,h4⟩ := xaJ h2
  obtain ⟨h5,rfl⟩ := xcI h3
  obtain ⟨g1,g2,g3⟩ := cod_name.ok _ _ _ hl h1
  obtain ⟨k1,k2,k3⟩ := cod_exp.ok _ _ _ (hl.suf g2) h4
  have e : s = yaN := eq_of_beq h5
  subst e
  refine ⟨k1,k2.trans g2,?_⟩
  unfold ymL
  rw [List.length_append]
  omega
def cst (k : Int) : Int := if k = 126 then 66 else 65
def bts (k : Int) : Int := if k = 126 then 64 else 32
def xlN : Rd GloV := nxt xgN fun k => nxt xfH fun m => nxt (need (decide (m <= 1)) 4) fun _ => nxt xfH fun op => nxt (need (op == 65 || op == 66) 6) fun _ => nxt (need (op == cst k) 4) fun _ => nxt (xmO (bts k)) fun s => nxt (xfX 11 4) fun _ => ret ⟨k,m == 1,s⟩
def ynQ (g : GloV) : Prop := isK g.k = true /\ xtA (bts g.k) g.s
def ymK (g : GloV) : List Int := g.k :: (if g.m then 1 else 0) :: cst g.k :: (sB g.s ++ [11])
theorem xoG (k : Int) : bts k = 32 \/ bts k = 64 := by
 unfold bts
 split
 ·exact Or.inr rfl
 ·exact Or.inl rfl
theorem cod_glo : Cod xlN ynQ ymK := by
 constructor
 ·intro l a r hl h
  obtain ⟨k,r1,h1,h2⟩ := xaJ h
  obtain ⟨m,r2,h3,h4⟩ := xaJ h2
  obtain ⟨_,r3,h5,h6⟩ := xaJ h4
  obtain ⟨_,rfl⟩ := xcI h5
  obtain ⟨op,r4,h7,h8⟩ := xaJ h6
  obtain ⟨_,r5,h9,h10⟩ := xaJ h8
  obtain ⟨_,rfl⟩ := xcI h9
  obtain ⟨_,r6,h11,h12⟩ := xaJ h10
  obtain ⟨_,rfl⟩ := xcI h11
  obtain ⟨s,r7,h13,h14⟩ := xaJ h12
  obtain ⟨_,r8,h15,h16⟩ := xaJ h14
  simp only [ret,Except.ok.injEq,Prod.mk.injEq] at h16
  obtain ⟨rfl,rfl⟩ := h16
  obtain ⟨g1,g2,g3⟩ := cod_kind.ok _ _ _ hl h1
  have e3 := xjT h3
  have e7 := xjT h7
  have e15 := xfG h15
  have s3 : r6 <:+ r1 := by rw [e3,e7]; exact ⟨[m,op],rfl⟩
  obtain ⟨k1,k2,k3⟩ := (xnU _ (xoG k)).ok _ _ _ (hl.suf (s3.trans g2)) h13
  have s4 : r8 <:+ r7 := by rw [e15]; exact List.suffix_cons _ _
  refine ⟨⟨g1,k1⟩,s4.trans (k2.trans (s3.trans g2)),?_⟩
  have l3 : r1.length = r6.length + 2 := by rw [e3,e7]; rfl
  have l4 : r7.length = r8.length + 1 := by rw [e15]; rfl
  unfold ymK
  simp only [List.length_cons,List.length_append,List.length_nil] at g3 ⊢
  omega
def xfP : Rd Int := nxt (xfX 0 6) fun _ => nxt (xfX 65 6) fun _ => nxt (xmO 32) fun a => nxt (xfX 11 4) fun _ => ret a
def xqC (a : Int) : List Int := 0 :: 65 :: (sB a ++ [11])
theorem cod_place : Cod xfP (xtA 32) xqC := by
 constructor
 ·intro l a r hl h
  obtain ⟨_,r1,h1,h2⟩ := xaJ h
  obtain ⟨_,r2,h3,h4⟩ := xaJ h2
  obtain ⟨s,r3,h5,h6⟩ := xaJ h4
  obtain ⟨_,r4,h7,h8⟩ := xaJ h6
  simp only [ret,Except.ok.injEq,Prod.mk.injEq] at h8
  obtain ⟨rfl,rfl⟩ := h8
  have e1 := xfG h1
  have e3 := xfG h3
  have e7 := xfG h7
  have s1 : r2 <:+ l := by rw [e1,e3]; exact ⟨[0,65],rfl⟩
  obtain ⟨k1,k2,k3⟩ := (xnU 32 (Or.inl rfl)).ok _ _ _ (hl.suf s1) h5
  have s4 : r4 <:+ r3 := by rw [e7]; exact List.suffix_cons _ _
  refine ⟨k1,s4.trans (k2.trans s1),?_⟩
  have l3 : l.length = r2.length + 2 := by rw [e1,e3]; rfl
  have l4 : r3.length = r4.length + 1 := by rw [e7]; rfl
  unfold xqC
  simp only [List.length_cons,List.length_append,List.length_nil]
  omega
def xvC : Rd EleV := nxt xfP fun a => nxt (xbP 16 xeG) fun f => ret ⟨a,f⟩
def GNs (most : Int) (l : List Int) : Prop := (l.length : Int) <= most /\ ∀ k ∈ l,xfT k
def tNs (l : List Int) : List Int := xzU (fun n => uB n.toNat) l
def ynP (e : EleV) : Prop := xtA 32 e.a /\ GNs 16 e.f
def ymJ (e : EleV) : List Int := xqC e.a ++ tNs e.f
theorem yjZ (most : Int) (h : most <= 4294967295) : Cod (xbP most xeG) (GNs most) tNs := ybY cod_num most h
theorem cod_ele : Cod xvC ynP ymJ := by
 constructor
 ·intro l a r hl h
  obtain ⟨s,r1,h1,h2⟩ := xaJ h
  obtain ⟨f,r2,h3,h4⟩ := xaJ h2
  simp only [ret,Except.ok.injEq,Prod.mk.injEq] at h4
  obtain ⟨rfl,rfl⟩ := h4
  obtain ⟨g1,g2,g3⟩ := cod_place.ok _ _ _ hl h1
  obtain ⟨k1,k2,k3⟩ := (yjZ 16 (by omega)).ok _ _ _ (hl.suf g2) h3
  refine ⟨⟨g1,k1⟩,k2.trans g2,?_⟩
  unfold ymJ
  rw [List.length_append]
  dsimp only
  omega
def xuR : Rd DatV := nxt xfP fun a => nxt (xbX 64) fun n => nxt (xbR n) fun s => ret ⟨a,s⟩
def ymE (d : DatV) : Prop := xtA 32 d.a /\ d.s.length <= 64 /\ Bts d.s
def ymI (d : DatV) : List Int := xqC d.a ++ xsF d.s
theorem cod_dat : Cod xuR ymE ymI := by
 constructor
 ·intro l a r hl h
  obtain ⟨s,r1,h1,h2⟩ := xaJ h
  obtain ⟨n,r2,h3,h4⟩ := xaJ h2
  obtain ⟨p,r3,h5,h6⟩ := xaJ h4
  simp only [ret,Except.ok.injEq,Prod.mk.injEq] at h6
  obtain ⟨rfl,rfl⟩ := h6
  obtain ⟨g1,g2,g3⟩ := cod_place.ok _ _ _ hl h1
  obtain ⟨k1,k2,k3⟩ := (xbM 64 (by omega)).ok _ _ _ (hl.suf g2) h3
  obtain ⟨h8,h9⟩ := xoY k1.1 h5
  have hb := hl.suf (k2.trans g2)
  refine ⟨⟨g1,by dsimp only; omega,fun b hb' => hb b (by rw [h8]; simp [show b ∈ p from hb'])⟩,List.IsSuffix.trans ⟨p,h8.symm⟩ (k2.trans g2),?_⟩
  unfold ymI xsF
  rw [h8,List.length_append] at k3
  rw [List.length_append,List.length_append]
  dsimp only
  rw [show p.length = n.toNat by omega]
  omega
def xeW {α : Type} (p : Rd α) (c : List Int) : Except Int α := match p c with
 | .error e => .error e
 | .ok (v,r) => if r = [] then .ok v else .error 4
def xdE {α : Type} (p : Rd α) : Rd α := nxt xeG fun n => nxt (xbR n) fun s l => match xeW p s with
 | .error e => .error e
 | .ok v => .ok (v,l)
theorem ybS {α : Type} {p : Rd α} {c : List Int} {v : α} (h : xeW p c = .ok v) : p c = .ok (v,[]) := by
 unfold xeW at h
 cases hp : p c with
 | error e => rw [hp] at h; cases h
 | ok x =>
  obtain ⟨a,r⟩ := x
  rw [hp] at h
  dsimp only at h
  split at h
  ·rename_i h0
   simp only [Except.ok.injEq] at h
   rw [h0,h]
  ·cases h
def xeF : Nat -> List Int -> Rd (List Int)
 | 0,acc => fun l => .ok (acc,l)
 | n + 1,acc => nxt xeG fun sz => nxt xgN fun k => nxt (need (decide ((acc.length : Int) + sz <= 16)) 2) fun _ => xeF n (acc ++ List.replicate sz.toNat k)
def xfF : Rd (List V4) := fun l => if (nRd 200 l []).1 = 0 then .ok ((nRd 200 l []).2.1,(nRd 200 l []).2.2) else .error (nRd 200 l []).1
def ymP (V : List V4) : Prop := V.length <= 200 /\ (∀ v ∈ V,v.rng /\ 0 <= v.op /\ v.op <= 255) /\ (xpZ V [] false).1 = 0 /\ (xpZ V [] false).2.2 = true
theorem cod_body : Cod xfF ymP ylF := by
 constructor
 ·intro l a r hl h
  unfold xfF at h
  split at h
  ·rename_i h0
   simp only [Except.ok.injEq,Prod.mk.injEq] at h
   obtain ⟨h1,h2⟩ := h
   have e : nRd 200 l [] = (0,a,r) := Prod.ext h0 (Prod.ext h1 h2)
   obtain ⟨q1,_,q3,q4,q5,q6,q7⟩ := xrE 200 l [] a r hl e
   exact ⟨⟨q1,q3,q4,q5⟩,q6,q7⟩
  ·cases h
def ybI : Rd CodV := nxt (xbX 16) fun n => nxt (xeF n.toNat []) fun l => nxt xfF fun b => ret ⟨l,b⟩
def xlM : Rd CodV := xdE ybI
structure DrV where
 types : List SigV
 imports : List NamV
 ftypes : List Int
 table : Int
 pages : Int
 most : Int
 globals : List GloV
 exports : List NamV
 start : Int
 elems : List EleV
 codes : List CodV
 data : List DatV
def DrV.zero : DrV := ⟨[],[],[],0,0,0,[],[],0,[],[],[]⟩
def xfQ : Rd Int := nxt (xbX 1) fun n => if n = 0 then ret 0 else nxt (xfX 112 6) fun _ => nxt (xfX 0 6) fun _ => xbX 16
def xrO : Rd (Int × Int) := nxt (xbX 1) fun n => if n = 0 then ret (0,0) else nxt (xfX 1 6) fun _ => nxt xeG fun p => nxt (xbX 8) fun m => nxt (need (decide (p <= m)) 4) fun _ => ret (p,m)
def xhN : Rd Int := nxt xeG fun n => nxt (need (decide (n < 4294967295)) 4) fun _ => ret (n + 1)
def xdD (n : Nat) (d : DrV) : Rd DrV := match n with
 | 1 => nxt (xbP 16 xvI) fun x => ret { d with types := x }
 | 2 => nxt (xbP 16 xpE) fun x => ret { d with imports := x }
 | 3 => nxt (xbP 16 xeG) fun x => ret { d with ftypes := x }
 | 4 => nxt xfQ fun x => ret { d with table := x }
 | 5 => nxt xrO fun x => ret { d with pages := x.1,most := x.2 }
 | 6 => nxt (xbP 8 xlN) fun x => ret { d with globals := x }
 | 7 => nxt (xbP 8 xtP) fun x => ret { d with exports := x }
 | 8 => nxt xhN fun x => ret { d with start := x }
 | 9 => nxt (xbP 4 xvC) fun x => ret { d with elems := x }
 | 10 => nxt (xbP 16 xlM) fun x => ret { d with codes := x }
 | 11 => nxt (xbP 4 xuR) fun x => ret { d with data := x }
 | _ => ret d
def lst {α : Type} (t : α -> List Int) (L : List α) : List Int := if L.isEmpty = true then [] else xzU t L
theorem yiF {p : Nat -> Prop} (h1 : p 1) (h2 : p 2) (h3 : p 3) (h4 : p 4) (h5 : p 5) (h6 : p 6) (h7 : p 7) (h8 : p 8) (h9 : p 9) (h10 : p 10) (h11 : p 11) (n : Nat) (a : 1 <= n) (b : n <= 11) : p n := by
 have : n = 1 \/ n = 2 \/ n = 3 \/ n = 4 \/ n = 5 \/ n = 6 \/ n = 7 \/ n = 8 \/ n = 9 \/ n = 10 \/ n = 11 := by omega
 rcases this with rfl | rfl | rfl | rfl | rfl | rfl | rfl | rfl | rfl | rfl | rfl <;> assumption
def rSecs (last : Nat) (d : DrV) (l : List Int) : Except Int DrV := match l with
 | [] => .ok d
 | b :: l => if _h1 : 1 <= b /\ b <= 11 then
   if _h2 : (last : Int) < b then (match xdE (xdD b.toNat d) l with
    | .error e => .error e
    | .ok (d1,r) => rSecs b.toNat d1 r)
   else .error 4
  else .error 6
 termination_by 12 - last
 decreasing_by omega
def head8 : List Int := [0,97,115,109,1,0,0,0]
def xbO : List Int -> Rd Unit
 | [] => ret ()
 | b :: r => nxt (xfX b 4) fun _ => xbO r
def xmM (l : List Int) : Except Int DrV := if 4096 < l.length then .error 2 else match xbO head8 l with
 | .error e => .error e
 | .ok (_,r) => match rSecs 0 DrV.zero r with
  | .error e => .error e
  | .ok d => if d.ftypes.length = d.codes.length then .ok d else .error 4
def NZ {α : Type} (p : Rd α) : Prop := ∀ l e,p l = .error e -> e ≠ 0
theorem xaQ {α β : Type} {x : Rd α} {f : α -> Rd β} (h : NZ x) (hf : ∀ a,NZ (f a)) : NZ (nxt x f) := by
 intro l e he
 unfold nxt at he
 cases hx : x l with
 | error e' => rw [hx] at he; simp only [Except.error.injEq] at he; subst he; exact h l _ hx
 | ok p => obtain ⟨a,r⟩ := p; rw [hx] at he; exact hf a r e he
theorem xbC {α : Type} (a : α) : NZ (ret a) := fun l e h => by cases h
theorem xdB (b : Bool) (e : Int) (h0 : e ≠ 0) : NZ (need b e) := by
 intro l e' h
 unfold need at h
 split at h
 ·cases h
 ·simp only [Except.error.injEq] at h; subst h; exact h0
theorem xmG : NZ xfH := by
 intro l e h
 cases l with
 | nil => simp only [xfH,Except.error.injEq] at h; subst h; decide
 | cons b r => cases h
theorem xgH (w e : Int) (h : e ≠ 0) : NZ (xfX w e) := xaQ xmG fun _ => xdB _ _ h
theorem xiB : NZ xeG := by
 intro l e h
 unfold xeG at h
 split at h
 ·cases h
 ·rename_i h0
  simp only [Except.error.injEq] at h
  subst h
  exact h0
theorem ybE (B : Int) : NZ (xmO B) := by
 intro l e h
 unfold xmO at h
 split at h
 ·cases h
 ·rename_i h0
  simp only [Except.error.injEq] at h
  subst h
  exact h0
theorem xmH (n : Int) : NZ (xbR n) := by
 intro l e h
 unfold xbR at h
 split at h
 ·cases h
 ·simp only [Except.error.injEq] at h; subst h; decide
theorem xeP (m : Int) : NZ (xbX m) := xaQ xiB fun _ => xaQ (xdB _ _ (by decide)) fun _ => xbC _
theorem xrK {α : Type} {p : Rd α} (h : NZ p) : ∀ n acc,NZ (xaS p n acc)
 | 0,acc => fun l e h => by cases h
 | n + 1,acc => fun l e he => by
  unfold xaS at he
  cases hp : p l with
  | error e' => rw [hp] at he; simp only [Except.error.injEq] at he; subst he; exact h l _ hp
  | ok x => obtain ⟨a,r⟩ := x; rw [hp] at he; exact xrK h n _ r e he
theorem xdA {α : Type} {p : Rd α} (m : Int) (h : NZ p) : NZ (xbP m p) := xaQ (xeP m) fun _ => xrK h _ _
theorem xmF : NZ xgN := xaQ xmG fun _ => xaQ (xdB _ _ (by decide)) fun _ => xbC _
theorem xqZ : NZ xdV := xaQ (xeP _) fun _ => xaQ (xmH _) fun _ => xaQ (xdB _ _ (by decide)) fun _ => xbC _
theorem ydH : NZ xvI := xaQ (xgH _ _ (by decide)) fun _ => xaQ (xdA _ xmF) fun _ => xaQ (xdA _ xmF) fun _ => xbC _
theorem ybD : NZ xtP := xaQ xqZ fun _ => xaQ (xgH _ _ (by decide)) fun _ => xaQ xiB fun _ => xbC _
theorem yhO : NZ xpE := xaQ xqZ fun _ => xaQ (xdB _ _ (by decide)) fun _ => ybD
theorem yhM : NZ xlN := xaQ xmF fun _ => xaQ xmG fun _ => xaQ (xdB _ _ (by decide)) fun _ => xaQ xmG fun _ => xaQ (xdB _ _ (by decide)) fun _ => xaQ (xdB _ _ (by decide)) fun _ => xaQ (ybE _) fun _ => xaQ (xgH _ _ (by decide)) fun _ => xbC _
theorem xrJ : NZ xfP := xaQ (xgH _ _ (by decide)) fun _ => xaQ (xgH _ _ (by decide)) fun _ => xaQ (ybE _) fun _ => xaQ (xgH _ _ (by decide)) fun _ => xbC _
theorem yhK : NZ xvC := xaQ xrJ fun _ => xaQ (xdA _ xiB) fun _ => xbC _
theorem yhJ : NZ xuR := xaQ xrJ fun _ => xaQ (xeP _) fun _ => xaQ (xmH _) fun _ => xbC _
theorem yaZ {α : Type} {p : Rd α} (h : NZ p) (c : List Int) (e : Int) (he : xeW p c = .error e) : e ≠ 0 := by
 unfold xeW at he
 cases hp : p c with
 | error e' => rw [hp] at he; simp only [Except.error.injEq] at he; subst he; exact h c _ hp
 | ok x =>
  obtain ⟨v,r⟩ := x
  rw [hp] at he
  dsimp only at he
  split at he
  ·cases he
  ·simp only [Except.error.injEq] at he; subst he; decide
theorem xrI {α : Type} {p : Rd α} (h : NZ p) : NZ (xdE p) := xaQ xiB fun n => xaQ (xmH n) fun s l e he => by
 cases ha : xeW p s with
 | error e' => rw [ha] at he; simp only [Except.error.injEq] at he; subst he; exact yaZ h s _ ha
 | ok v => rw [ha] at he; cases he
theorem xwV : ∀ n acc,NZ (xeF n acc)
 | 0,acc => fun l e h => by cases h
 | n + 1,acc => xaQ xiB fun _ => xaQ xmF fun _ => xaQ (xdB _ _ (by decide)) fun _ => xwV n _
theorem xwU : NZ xfF := by
 intro l e h
 unfold xfF at h
 split at h
 ·cases h
 ·rename_i h0
  simp only [Except.error.injEq] at h
  subst h
  exact h0
theorem yhL : NZ ybI := xaQ (xeP _) fun _ => xaQ (xwV _ _) fun _ => xaQ xwU fun _ => xbC _
theorem ydE : NZ xlM := xrI yhL
theorem yhN {α : Type} {P : Prop} [Decidable P] {p q : Rd α} (hp : NZ p) (hq : NZ q) : NZ (if P then p else q) := by
 split
 ·exact hp
 ·exact hq
theorem xzB : NZ xfQ := xaQ (xeP _) fun _ => yhN (xbC _) (xaQ (xgH _ _ (by decide)) fun _ => xaQ (xgH _ _ (by decide)) fun _ => xeP _)
theorem yhP : NZ xrO := xaQ (xeP _) fun _ => yhN (xbC _) (xaQ (xgH _ _ (by decide)) fun _ => xaQ xiB fun _ => xaQ (xeP _) fun _ => xaQ (xdB _ _ (by decide)) fun _ => xbC _)
theorem xzA : NZ xhN := xaQ xiB fun _ => xaQ (xdB _ _ (by decide)) fun _ => xbC _
theorem ydF (n : Nat) (d : DrV) : NZ (xdD n d) := by
 unfold xdD
 split
 ·exact xaQ (xdA _ ydH) fun _ => xbC _
 ·exact xaQ (xdA _ yhO) fun _ => xbC _
 ·exact xaQ (xdA _ xiB) fun _ => xbC _
 ·exact xaQ xzB fun _ => xbC _
 ·exact xaQ yhP fun _ => xbC _
 ·exact xaQ (xdA _ yhM) fun _ => xbC _
 ·exact xaQ (xdA _ ybD) fun _ => xbC _
 ·exact xaQ xzA fun _ => xbC _
 ·exact xaQ (xdA _ yhK) fun _ => xbC _
 ·exact xaQ (xdA _ ydE) fun _ => xbC _
 ·exact xaQ (xdA _ yhJ) fun _ => xbC _
 ·exact xbC _
theorem ydG (last : Nat) (d : DrV) (l : List Int) (e : Int) (h : rSecs last d l = .error e) : e ≠ 0 := by
 induction last,d,l using rSecs.induct with
 | case1 last d => rw [rSecs] at h; cases h
 | case2 last d b l h1 h2 e' hi =>
  rw [rSecs,dif_pos h1,dif_pos h2,hi] at h
  simp only [Except.error.injEq] at h
  subst h
  exact xrI (ydF _ _) _ _ hi
 | case3 last d b l h1 h2 d1 r hi ih =>
  rw [rSecs,dif_pos h1,dif_pos h2,hi] at h
  exact ih h
 | case4 last d b l h1 h2 =>
  rw [rSecs,dif_pos h1,dif_neg h2] at h
  simp only [Except.error.injEq] at h
  subst h
  decide
 | case5 last d b l h1 =>
  rw [rSecs,dif_neg h1] at h
  simp only [Except.error.injEq] at h
  subst h
  decide
theorem xrH : ∀ h,NZ (xbO h)
 | [] => fun l e h => by cases h
 | b :: r => xaQ (xgH _ _ (by decide)) fun _ => xrH r
theorem xvG (l : List Int) {e : Int} (h : xmM l = .error e) : e ≠ 0 := by
 unfold xmM at h
 split at h
 ·simp only [Except.error.injEq] at h; subst h; decide
 ·cases hf : xbO head8 l with
  | error e' => rw [hf] at h; simp only [Except.error.injEq] at h; subst h; exact xrH _ _ _ hf
  | ok q =>
   obtain ⟨u,r⟩ := q
   rw [hf] at h
   dsimp only at h
   cases hs : rSecs 0 DrV.zero r with
   | error e' => rw [hs] at h; simp only [Except.error.injEq] at h; subst h; exact ydG _ _ _ _ hs
   | ok d =>
    rw [hs] at h
    dsimp only at h
    split at h
    ·cases h
    ·simp only [Except.error.injEq] at h; subst h; decide
end Go.Proofs.YtmmjgdaamkdncaaGreatDoor
