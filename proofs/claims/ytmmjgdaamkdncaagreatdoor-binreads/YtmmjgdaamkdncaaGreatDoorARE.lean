import Derived.Test.YtmmjgdaamkdncaaGreatDoorARD
namespace Go.Proofs.YtmmjgdaamkdncaaGreatDoor
set_option maxHeartbeats 4000000
set_option maxRecDepth 1000000
open Go.RowKit
set_option linter.unusedVariables false
structure Rel {α : Type} (p : Rd α) (q : List Int -> Int -> α × List Int × Int) : Prop where
 ok : ∀ l x r,Bts l -> p l = .ok (x,r) -> q l 0 = (x,r,0) /\ Bts r
 err : ∀ l e,Bts l -> p l = .error e -> (q l 0).2.2 = e /\ e ≠ 0
 bad : ∀ l a,a ≠ 0 -> (q l a).2.2 = a
theorem yeH {a : Int} (h : a ≠ 0) (e : Int) : xbD a e = a := by unfold xbD; rw [if_neg h]
theorem xdG (e : Int) : xbD 0 e = e := by unfold xbD; rw [if_pos rfl]
theorem xcL {a : Int} (h : a ≠ 0) (b : Bool) (e : Int) : xcP b e a = a := by
 unfold xcP
 split
 ·exact yeH h e
 ·rfl
theorem Rel.next : Rel xfH xaI := by
 refine ⟨fun l x r hb h => ?_,fun l e hb h => ?_,fun l a h => ?_⟩
 ·cases l with
  | nil => cases h
  | cons b t =>
   simp only [xfH,Except.ok.injEq,Prod.mk.injEq] at h
   obtain ⟨rfl,rfl⟩ := h
   exact ⟨rfl,fun c hc => hb c (List.mem_cons_of_mem _ hc)⟩
 ·cases l with
  | nil =>
   simp only [xfH,Except.error.injEq] at h
   subst h
   exact ⟨rfl,by decide⟩
  | cons b t => cases h
 ·unfold xaI
  rw [if_neg h]
theorem Rel.ret {α : Type} (x : α) : Rel (ret x) (fun l a => (x,l,a)) := by
 refine ⟨fun l y r hb h => ?_,fun l e hb h => ?_,fun l a h => rfl⟩
 ·simp only [Go.Proofs.YtmmjgdaamkdncaaGreatDoor.ret,Except.ok.injEq,Prod.mk.injEq] at h
  obtain ⟨rfl,rfl⟩ := h
  exact ⟨rfl,hb⟩
 ·cases h
theorem Rel.need (b : Bool) (e : Int) (he : e ≠ 0) : Rel (need b e) (fun l a => ((),l,xcP (!b) e a)) := by
 refine ⟨fun l y r hb h => ?_,fun l d hb h => ?_,fun l a h => xcL h _ _⟩
 ·obtain ⟨rfl,rfl⟩ := xcI h
  exact ⟨rfl,hb⟩
 ·cases b with
  | true => cases h
  | false =>
   simp only [Go.Proofs.YtmmjgdaamkdncaaGreatDoor.need,Bool.false_eq_true,if_false,Except.error.injEq] at h
   subst h
   exact ⟨xdG _,he⟩
theorem Rel.nxt {α β : Type} {p : Rd α} {q : List Int -> Int -> α × List Int × Int} {f : α -> Rd β} {g : α -> List Int -> Int -> β × List Int × Int} (h : Rel p q) (k : ∀ x,Rel (f x) (g x)) : Rel (nxt p f) (fun l a => g (q l a).1 (q l a).2.1 (q l a).2.2) := by
 refine ⟨fun l y r hb e => ?_,fun l d hb e => ?_,fun l a ha => ?_⟩
 ·obtain ⟨x,r1,h1,h2⟩ := xaJ e
  obtain ⟨e1,hb1⟩ := h.ok l x r1 hb h1
  rw [e1]
  exact (k x).ok r1 y r hb1 h2
 ·cases hp : p l with
  | error d' =>
   rw [xaW hp] at e
   simp only [Except.error.injEq] at e
   subst e
   obtain ⟨e1,e2⟩ := h.err l d' hb hp
   refine ⟨?_,e2⟩
   rw [(k _).bad _ _ (by rw [e1]; exact e2),e1]
  | ok z =>
   obtain ⟨x,r1⟩ := z
   rw [xaV hp] at e
   obtain ⟨e1,hb1⟩ := h.ok l x r1 hb hp
   rw [e1]
   exact (k x).err r1 d hb1 e
 ·have := h.bad l a ha
  rw [(k _).bad _ _ (by rw [this]; exact ha),this]
theorem Rel.as {α : Type} {p : Rd α} {q q' : List Int -> Int -> α × List Int × Int} (h : Rel p q) (h3 : ∀ l a,(q' l a).2.2 = (q l a).2.2) (h0 : ∀ l,(q l 0).2.2 = 0 -> q' l 0 = q l 0) : Rel p q' := by
 refine ⟨fun l x r hb e => ?_,fun l d hb e => ?_,fun l a ha => ?_⟩
 ·obtain ⟨e1,e2⟩ := h.ok l x r hb e
  exact ⟨(h0 l (by rw [e1])).trans e1,e2⟩
 ·rw [h3]; exact h.err l d hb e
 ·rw [h3]; exact h.bad l a ha
theorem Rel.num : Rel xeG xaK := by
 refine ⟨fun l x r hb h => ?_,fun l e hb h => ?_,fun l a h => ?_⟩
 ·unfold xeG at h
  split at h
  ·rename_i h0
   simp only [Except.ok.injEq,Prod.mk.injEq] at h
   obtain ⟨rfl,rfl⟩ := h
   refine ⟨?_,fun c hc => hb c (List.mem_of_mem_drop hc)⟩
   unfold xaK xaT
   rw [if_pos rfl,if_pos h0]
  ·cases h
 ·unfold xeG at h
  split at h
  ·cases h
  ·rename_i h0
   simp only [Except.error.injEq] at h
   subst h
   refine ⟨?_,h0⟩
   unfold xaK xaT
   rw [if_pos rfl,if_neg h0]
   exact xdG _
 ·unfold xaK
  rw [if_neg h]
theorem Rel.sgn (B : Int) : Rel (xmO B) (xfM B) := by
 refine ⟨fun l x r hb h => ?_,fun l e hb h => ?_,fun l a h => ?_⟩
 ·unfold xmO at h
  split at h
  ·rename_i h0
   simp only [Except.ok.injEq,Prod.mk.injEq] at h
   obtain ⟨rfl,rfl⟩ := h
   refine ⟨?_,fun c hc => hb c (List.mem_of_mem_drop hc)⟩
   unfold xfM xcR
   rw [if_pos rfl,if_pos h0]
  ·cases h
 ·unfold xmO at h
  split at h
  ·cases h
  ·rename_i h0
   simp only [Except.error.injEq] at h
   subst h
   refine ⟨?_,h0⟩
   unfold xfM xcR
   rw [if_pos rfl,if_neg h0]
   exact xdG _
 ·unfold xfM
  rw [if_neg h]
theorem Rel.fix (b e : Int) (he : e ≠ 0) : Rel (xfX b e) (fun l a => ((),(xaA b e l a).1,(xaA b e l a).2)) := Rel.next.nxt fun x => Rel.need (x == b) e he
theorem Rel.kind : Rel xgN xbU := Rel.next.nxt fun k => (Rel.need (isK k) 6 (by decide)).nxt fun _ => Rel.ret k
theorem Rel.count (most : Int) : Rel (xbX most) (xaN most) := by
 have h : Rel (xbX most) _ := Rel.num.nxt fun n => (Rel.need (decide (n <= most)) 2 (by decide)).nxt fun _ => Rel.ret n
 have hd : ∀ x : Int,(!decide (x <= most)) = decide (most < x) := fun x => by
  by_cases hc : x <= most
  ·rw [decide_eq_true hc,decide_eq_false (by omega)]; rfl
  ·rw [decide_eq_false hc,decide_eq_true (by omega)]; rfl
 refine h.as (fun l a => ?_) (fun l h0 => ?_)
 ·unfold xaN
  dsimp only
  rw [hd]
 ·unfold xaN
  dsimp only at h0 ⊢
  rw [hd] at h0 ⊢
  rw [if_pos h0]
theorem Rel.place : Rel xfP xhM := (Rel.fix 0 6 (by decide)).nxt fun _ => (Rel.fix 65 6 (by decide)).nxt fun _ => (Rel.sgn 32).nxt fun a => (Rel.fix 11 4 (by decide)).nxt fun _ => Rel.ret a
theorem Rel.name : Rel xdV xiN := by
 refine ⟨fun l x r hb h => ?_,fun l e hb h => ?_,fun l a h => ?_⟩
 ·refine ⟨?_,?_⟩
  ·unfold xiN
   rw [if_pos rfl,h]
  ·exact Bts.suf hb (cod_name.ok l x r hb h).2.1
 ·refine ⟨?_,xqZ l e h⟩
  unfold xiN
  rw [if_pos rfl,h]
 ·unfold xiN
  rw [if_neg h]
theorem Rel.nxtIf {α β : Type} {p : Rd α} {q : List Int -> Int -> α × List Int × Int} {f : α -> Rd β} {g : α -> List Int -> Int -> β × List Int × Int} (G : α -> Prop) (hG : ∀ l x r,Bts l -> p l = .ok (x,r) -> G x) (h : Rel p q) (k : ∀ x,G x -> Rel (f x) (g x)) (kb : ∀ x l a,a ≠ 0 -> (g x l a).2.2 = a) : Rel (Go.Proofs.YtmmjgdaamkdncaaGreatDoor.nxt p f) (fun l a => g (q l a).1 (q l a).2.1 (q l a).2.2) := by
 refine ⟨fun l y r hb e => ?_,fun l d hb e => ?_,fun l a ha => ?_⟩
 ·obtain ⟨x,r1,h1,h2⟩ := xaJ e
  obtain ⟨e1,hb1⟩ := h.ok l x r1 hb h1
  rw [e1]
  exact (k x (hG l x r1 hb h1)).ok r1 y r hb1 h2
 ·cases hp : p l with
  | error d' =>
   rw [xaW hp] at e
   simp only [Except.error.injEq] at e
   subst e
   obtain ⟨e1,e2⟩ := h.err l d' hb hp
   refine ⟨?_,e2⟩
   rw [kb _ _ _ (by rw [e1]; exact e2),e1]
  | ok z =>
   obtain ⟨x,r1⟩ := z
   rw [xaV hp] at e
   obtain ⟨e1,hb1⟩ := h.ok l x r1 hb hp
   rw [e1]
   exact (k x (hG l x r1 hb hp)).err r1 d hb1 e
 ·have := h.bad l a ha
  rw [kb _ _ _ (by rw [this]; exact ha),this]
def xoV (k m op : Int) (l : List Int) (a : Int) : GloV × List Int × Int :=
 let c := xcP ((op == 65 && k != 127) || (op == 66 && k != 126)) 4 a
 let z := xfM (if op = 65 then 32 else 64) l c
 let e := xaA 11 4 z.2.1 z.2.2
 (⟨k,m == 1,z.1⟩,e.1,e.2)
theorem xoW {a : Int} (h : a ≠ 0) (b e : Int) (l : List Int) : (xaA b e l a).2 = a := by
 unfold xaA
 dsimp only
 have : (xaI l a).2.2 = a := Rel.next.bad l a h
 rw [this]
 exact xcL h _ _
theorem xkR (k m op : Int) (l : List Int) (a : Int) (h : a ≠ 0) : (xoV k m op l a).2.2 = a := by
 unfold xoV
 dsimp only
 rw [xcL h]
 have : (xfM (if op = 65 then 32 else 64) l a).2.2 = a := (Rel.sgn _).bad l a h
 rw [this]
 exact xoW h _ _ _
theorem Rel.gloT (k m op : Int) (hk : k = 127 \/ k = 126) (ho : op = 65 \/ op = 66) : Rel (Go.Proofs.YtmmjgdaamkdncaaGreatDoor.nxt (Go.Proofs.YtmmjgdaamkdncaaGreatDoor.need (op == cst k) 4) fun _ => Go.Proofs.YtmmjgdaamkdncaaGreatDoor.nxt (xmO (bts k)) fun s => Go.Proofs.YtmmjgdaamkdncaaGreatDoor.nxt (xfX 11 4) fun _ => Go.Proofs.YtmmjgdaamkdncaaGreatDoor.ret (⟨k,m == 1,s⟩ : GloV)) (xoV k m op) := by
 have h : Rel (Go.Proofs.YtmmjgdaamkdncaaGreatDoor.nxt (Go.Proofs.YtmmjgdaamkdncaaGreatDoor.need (op == cst k) 4) fun _ => Go.Proofs.YtmmjgdaamkdncaaGreatDoor.nxt (xmO (bts k)) fun s => Go.Proofs.YtmmjgdaamkdncaaGreatDoor.nxt (xfX 11 4) fun _ => Go.Proofs.YtmmjgdaamkdncaaGreatDoor.ret (⟨k,m == 1,s⟩ : GloV)) _ := (Rel.need (op == cst k) 4 (by decide)).nxt fun _ => (Rel.sgn (bts k)).nxt fun s => (Rel.fix 11 4 (by decide)).nxt fun _ => Rel.ret (⟨k,m == 1,s⟩ : GloV)
 have hcase : (op = cst k /\ ((op == 65 && k != 127) || (op == 66 && k != 126)) = false /\ (if op = 65 then (32 : Int) else 64) = bts k /\ (op == cst k) = true) \/ (((op == 65 && k != 127) || (op == 66 && k != 126)) = true /\ (op == cst k) = false) := by
  rcases hk with rfl | rfl <;> rcases ho with rfl | rfl
  ·left; decide
  ·right; decide
  ·right; decide
  ·left; decide
 rcases hcase with ⟨_,hc,hb,ht⟩ | ⟨hc,ht⟩
 ·rw [ht] at h ⊢
  refine h.as (fun l a => ?_) (fun l _ => ?_)
  ·unfold xoV
   dsimp only
   rw [hc,hb]
   rfl
  ·unfold xoV
   dsimp only
   rw [hc,hb]
   rfl
 ·refine ⟨fun l x r hb e => ?_,fun l d hb e => ?_,fun l a ha => xkR k m op l a ha⟩
  ·rw [ht] at e
   cases e
  ·rw [ht] at e
   have e4 : d = 4 := by
    simp only [Go.Proofs.YtmmjgdaamkdncaaGreatDoor.nxt,Go.Proofs.YtmmjgdaamkdncaaGreatDoor.need,Bool.false_eq_true,if_false,Except.error.injEq] at e
    exact e.symm
   subst e4
   refine ⟨?_,by decide⟩
   unfold xoV
   dsimp only
   rw [hc]
   have e1 : xcP true 4 0 = 4 := rfl
   rw [e1,show (xfM (if op = 65 then 32 else 64) l 4).2.2 = 4 from (Rel.sgn _).bad l 4 (by decide)]
   exact xoW (by decide) _ _ _
theorem Rel.glo : Rel xlN xgT := by
 refine Rel.kind.nxtIf (fun k => k = 127 \/ k = 126) (fun l x r hb h => ?_) (g := fun k l a => xoV k (xaI l a).1 (xaI (xaI l a).2.1 (xcP (decide (1 < (xaI l a).1)) 4 (xaI l a).2.2)).1 (xaI (xaI l a).2.1 (xcP (decide (1 < (xaI l a).1)) 4 (xaI l a).2.2)).2.1 (xcP ((xaI (xaI l a).2.1 (xcP (decide (1 < (xaI l a).1)) 4 (xaI l a).2.2)).1 != 65 && (xaI (xaI l a).2.1 (xcP (decide (1 < (xaI l a).1)) 4 (xaI l a).2.2)).1 != 66) 6 (xaI (xaI l a).2.1 (xcP (decide (1 < (xaI l a).1)) 4 (xaI l a).2.2)).2.2)) (fun k hk => ?_) (fun k l a ha => ?_)
 ·obtain ⟨y,r1,_,h2⟩ := xaJ h
  obtain ⟨u,r2,h3,h4⟩ := xaJ h2
  obtain ⟨h5,rfl⟩ := xcI h3
  simp only [Go.Proofs.YtmmjgdaamkdncaaGreatDoor.ret,Except.ok.injEq,Prod.mk.injEq] at h4
  rw [<- h4.1]
  exact xlA h5
 ·have hd : ∀ x : Int,(!decide (x <= 1)) = decide (1 < x) := fun x => by
   by_cases hc : x <= 1
   ·rw [decide_eq_true hc,decide_eq_false (by omega)]; rfl
   ·rw [decide_eq_false hc,decide_eq_true (by omega)]; rfl
  have ho : ∀ x : Int,(!(x == 65 || x == 66)) = (x != 65 && x != 66) := fun x => by
   rw [bne,bne,Bool.not_or]
  have h := Rel.next.nxt fun m => (Rel.need (decide (m <= 1)) 4 (by decide)).nxt fun _ => Rel.next.nxt fun op => (Rel.need (op == 65 || op == 66) 6 (by decide)).nxtIf (fun _ => op = 65 \/ op = 66) (fun l x r hb e => by
    have := (xcI e).1
    simpa using this) (g := fun _ => xoV k m op) (fun _ hop => Rel.gloT k m op hk hop) (fun _ l a ha => xkR k m op l a ha)
  simp only [hd,ho] at h
  exact h
 ·have h1 : (xaI l a).2.2 = a := Rel.next.bad l a ha
  rw [h1,xcL ha]
  have h2 : ∀ t,(xaI t a).2.2 = a := fun t => Rel.next.bad t a ha
  rw [h2,xcL ha]
  exact xkR _ _ _ _ _ ha
def xbW {α : Type} (q : List Int -> Int -> α × List Int × Int) : Nat -> List Int -> Int -> List α × List Int × Int
 | 0,l,a => ([],l,a)
 | n + 1,l,a => ((q l a).1 :: (xbW q n (q l a).2.1 (q l a).2.2).1,(xbW q n (q l a).2.1 (q l a).2.2).2)
theorem Rel.times {α : Type} {p : Rd α} {q : List Int -> Int -> α × List Int × Int} (h : Rel p q) : ∀ (n : Nat) (acc : List α),Rel (xaS p n acc) (fun l a => (acc ++ (xbW q n l a).1,(xbW q n l a).2))
 | 0,acc => by
  have := Rel.ret acc
  refine this.as (fun l a => rfl) (fun l _ => ?_)
  show (acc ++ [],l,(0 : Int)) = (acc,l,0)
  rw [List.append_nil]
 | n + 1,acc => by
  have k := h.nxt fun x => Rel.times h n (acc ++ [x])
  refine k.as (fun l a => rfl) (fun l _ => ?_)
  show (acc ++ ((q l 0).1 :: (xbW q n (q l 0).2.1 (q l 0).2.2).1),_) = (acc ++ [(q l 0).1] ++ (xbW q n (q l 0).2.1 (q l 0).2.2).1,_)
  rw [List.append_assoc]
  rfl
def xtN {α : Type} (most : Int) (q : List Int -> Int -> α × List Int × Int) (l : List Int) (a : Int) : List α × List Int × Int := xbW q (xaN most l a).1.toNat (xaN most l a).2.1 (xaN most l a).2.2
theorem Rel.list {α : Type} {p : Rd α} {q : List Int -> Int -> α × List Int × Int} (most : Int) (h : Rel p q) : Rel (xbP most p) (xtN most q) := by
 have k := (Rel.count most).nxt fun n => Rel.times h n.toNat []
 exact k.as (fun l a => rfl) (fun l _ => rfl)
def xlD (n : Int) (l : List Int) (a : Int) : List Int × List Int × Int :=
 let s := xcP (decide ((l.length : Int) < n)) 3 a
 if s = 0 then (l.take n.toNat,l.drop n.toNat,s) else ([],l,s)
theorem Rel.piece (n : Int) : Rel (xbR n) (xlD n) := by
 refine ⟨fun l x r hb h => ?_,fun l e hb h => ?_,fun l a h => ?_⟩
 ·unfold xbR at h
  split at h
  ·rename_i h0
   simp only [Except.ok.injEq,Prod.mk.injEq] at h
   obtain ⟨rfl,rfl⟩ := h
   refine ⟨?_,fun c hc => hb c (List.mem_of_mem_drop hc)⟩
   unfold xlD
   rw [decide_eq_false (by omega)]
   rfl
  ·cases h
 ·unfold xbR at h
  split at h
  ·cases h
  ·rename_i h0
   simp only [Except.error.injEq] at h
   subst h
   refine ⟨?_,by decide⟩
   unfold xlD
   rw [decide_eq_true (by omega)]
   rfl
 ·unfold xlD
  dsimp only
  rw [xcL h,if_neg h]
def xhY (l : List Int) (a : Int) : SigV × List Int × Int :=
 let m := xaA 96 4 l a
 let i := xtN 4 xbU m.1 m.2
 let o := xtN 1 xbU i.2.1 i.2.2
 (⟨i.1,o.1⟩,o.2)
theorem Rel.sigV : Rel xvI xhY := (Rel.fix 96 4 (by decide)).nxt fun _ => (Rel.list 4 Rel.kind).nxt fun i => (Rel.list 1 Rel.kind).nxt fun o => Rel.ret (⟨i,o⟩ : SigV)
def xoU (l : List Int) (a : Int) : NamV × List Int × Int :=
 let s := xiN l a
 let m := xaA 0 6 s.2.1 s.2.2
 let n := xaK m.1 m.2
 (⟨s.1,n.1⟩,n.2)
theorem Rel.exp : Rel xtP xoU := Rel.name.nxt fun s => (Rel.fix 0 6 (by decide)).nxt fun _ => Rel.num.nxt fun n => Rel.ret (⟨s,n⟩ : NamV)
def xpC (l : List Int) (a : Int) : NamV × List Int × Int :=
 let h := xiN l a
 xoU h.2.1 (xcP (!(h.1 == yaN)) 6 h.2.2)
theorem Rel.imp : Rel xpE xpC := Rel.name.nxt fun h => (Rel.need (h == yaN) 6 (by decide)).nxt fun _ => Rel.exp
def xpB (l : List Int) (a : Int) : EleV × List Int × Int :=
 let p := xhM l a
 let f := xtN 16 xaK p.2.1 p.2.2
 (⟨p.1,f.1⟩,f.2)
theorem Rel.ele : Rel xvC xpB := Rel.place.nxt fun a => (Rel.list 16 Rel.num).nxt fun f => Rel.ret (⟨a,f⟩ : EleV)
def xlZ (l : List Int) (a : Int) : DatV × List Int × Int :=
 let p := xhM l a
 let n := xaN 64 p.2.1 p.2.2
 let s := xlD n.1 n.2.1 n.2.2
 (⟨p.1,s.1⟩,s.2)
theorem Rel.dat : Rel xuR xlZ := Rel.place.nxt fun a => (Rel.count 64).nxt fun n => (Rel.piece n).nxt fun s => Rel.ret (⟨a,s⟩ : DatV)
theorem Rel.ite {α : Type} {p p' : Rd α} {q q' : List Int -> Int -> α × List Int × Int} (c : Prop) [Decidable c] (h : Rel p q) (h' : Rel p' q') : Rel (if c then p else p') (if c then q else q') := by
 by_cases hc : c
 ·rw [if_pos hc,if_pos hc]; exact h
 ·rw [if_neg hc,if_neg hc]; exact h'
def xiC (l : List Int) (a : Int) : Int × List Int × Int :=
 let n := xaN 1 l a
 (if n.1 = 0 then (fun l a => (0,l,a)) else fun l a => xaN 16 (xaA 0 6 (xaA 112 6 l a).1 (xaA 112 6 l a).2).1 (xaA 0 6 (xaA 112 6 l a).1 (xaA 112 6 l a).2).2) n.2.1 n.2.2
theorem Rel.table : Rel xfQ xiC := (Rel.count 1).nxt fun n => Rel.ite (n = 0) (Rel.ret 0) ((Rel.fix 112 6 (by decide)).nxt fun _ => (Rel.fix 0 6 (by decide)).nxt fun _ => Rel.count 16)
def xvB (l : List Int) (a : Int) : (Int × Int) × List Int × Int :=
 let n := xaN 1 l a
 (if n.1 = 0 then (fun l a => ((0,0),l,a)) else fun l a =>
  let f := xaA 1 6 l a
  let p := xaK f.1 f.2
  let m := xaK p.2.1 p.2.2
  ((p.1,m.1),m.2.1,xcP (decide (m.1 < p.1)) 4 (xcP (decide (8 < m.1)) 2 m.2.2))) n.2.1 n.2.2
theorem ybC (x y : Int) : (!decide (x <= y)) = decide (y < x) := by
 by_cases hc : x <= y
 ·rw [decide_eq_true hc,decide_eq_false (by omega)]; rfl
 ·rw [decide_eq_false hc,decide_eq_true (by omega)]; rfl
theorem xxS {β : Type} (most : Int) (f : Int -> Rd β) : nxt (xbX most) f = nxt xeG fun m => nxt (need (decide (m <= most)) 2) fun _ => f m := by
 funext l
 unfold xbX
 simp only [nxt,ret]
 cases xeG l with
 | error e => rfl
 | ok z =>
  obtain ⟨x,r⟩ := z
  dsimp only
  cases need (decide (x <= most)) 2 r with
  | error e => rfl
  | ok z => rfl
theorem relMem : Rel xrO xvB := by
 unfold xrO
 simp only [xxS 8]
 have h := (Rel.count 1).nxt fun n => Rel.ite (n = 0) (Rel.ret ((0,0) : Int × Int)) ((Rel.fix 1 6 (by decide)).nxt fun _ => Rel.num.nxt fun p => Rel.num.nxt fun m => (Rel.need (decide (m <= 8)) 2 (by decide)).nxt fun _ => (Rel.need (decide (p <= m)) 4 (by decide)).nxt fun _ => Rel.ret (p,m))
 simp only [ybC] at h
 exact h
def xgI (l : List Int) (a : Int) : Int × List Int × Int := ((xaK l a).1 + 1,(xaK l a).2.1,xcP (decide (4294967295 < (xaK l a).1 + 1)) 4 (xaK l a).2.2)
theorem relStart : Rel xhN xgI := by
 have h := Rel.num.nxt fun n => (Rel.need (decide (n < 4294967295)) 4 (by decide)).nxt fun _ => Rel.ret (n + 1)
 have e : ∀ n : Int,(!decide (n < 4294967295)) = decide (4294967295 < n + 1) := fun n => by
  by_cases hc : n < 4294967295
  ·rw [decide_eq_true hc,decide_eq_false (by omega)]; rfl
  ·rw [decide_eq_false hc,decide_eq_true (by omega)]; rfl
 simp only [e] at h
 exact h
def xfW : Nat -> List Int -> List Int -> Int -> List Int × List Int × Int
 | 0,acc,l,a => (acc,l,a)
 | n + 1,acc,l,a => xfW n (if xcP (decide (16 < (acc.length : Int) + (xaK l a).1)) 2 (xbU (xaK l a).2.1 (xaK l a).2.2).2.2 = 0 then acc ++ List.replicate (xaK l a).1.toNat (xbU (xaK l a).2.1 (xaK l a).2.2).1 else acc) (xbU (xaK l a).2.1 (xaK l a).2.2).2.1 (xcP (decide (16 < (acc.length : Int) + (xaK l a).1)) 2 (xbU (xaK l a).2.1 (xaK l a).2.2).2.2)
theorem xjF : ∀ (n : Nat) (acc : List Int),Rel (xeF n acc) (xfW n acc)
 | 0,acc => (Rel.ret acc).as (fun _ _ => rfl) (fun _ _ => rfl)
 | n + 1,acc => by
  have h := Rel.num.nxt fun sz => Rel.kind.nxt fun k => (Rel.need (decide ((acc.length : Int) + sz <= 16)) 2 (by decide)).nxt fun _ => xjF n (acc ++ List.replicate sz.toNat k)
  simp only [ybC] at h
  refine h.as (fun l a => ?_) (fun l h0 => ?_)
  ·show (xfW n _ _ _).2.2 = (xfW n _ _ _).2.2
   generalize xcP (decide (16 < (acc.length : Int) + (xaK l a).1)) 2 (xbU (xaK l a).2.1 (xaK l a).2.2).2.2 = s
   by_cases hs : s = 0
   ·rw [if_pos hs]
   ·rw [(xjF n _).bad _ _ hs,(xjF n _).bad _ _ hs]
  ·show xfW n _ _ _ = xfW n _ _ _
   generalize xcP (decide (16 < (acc.length : Int) + (xaK l 0).1)) 2 (xbU (xaK l 0).2.1 (xaK l 0).2.2).2.2 = s at h0 ⊢
   by_cases hs : s = 0
   ·rw [if_pos hs]
   ·rw [(xjF n _).bad _ _ hs] at h0
    exact absurd h0 hs
def xiL (l : List Int) (a : Int) : List V4 × List Int × Int := if a = 0 then match xfF l with
 | .ok (x,r) => (x,r,0)
 | .error e => ([],l,e)
 else ([],l,a)
theorem relBody : Rel xfF xiL := by
 refine ⟨fun l x r hb h => ?_,fun l e hb h => ?_,fun l a h => ?_⟩
 ·refine ⟨?_,?_⟩
  ·unfold xiL
   rw [if_pos rfl,h]
  ·exact Bts.suf hb (cod_body.ok l x r hb h).2.1
 ·refine ⟨?_,xwU l e h⟩
  unfold xiL
  rw [if_pos rfl,h]
 ·unfold xiL
  rw [if_neg h]
def xfO (l : List Int) (a : Int) : CodV × List Int × Int :=
 let n := xaN 16 l a
 let g := xfW n.1.toNat [] n.2.1 n.2.2
 let b := xiL g.2.1 g.2.2
 (⟨g.1,b.1⟩,b.2)
theorem ygE : Rel ybI xfO := (Rel.count 16).nxt fun n => (xjF n.toNat []).nxt fun l => relBody.nxt fun b => Rel.ret (⟨l,b⟩ : CodV)
def xaG {α : Type} (q : List Int -> Int -> α × List Int × Int) (l : List Int) (a : Int) : α × List Int × Int :=
 let z := xaK l a
 let y := q (z.2.1.take z.1.toNat) 0
 if xcP (decide ((z.2.1.length : Int) < z.1)) 3 z.2.2 = 0 then (y.1,if xcP (!y.2.1.isEmpty) 4 y.2.2 = 0 then z.2.1.drop z.1.toNat else z.2.1,xcP (!y.2.1.isEmpty) 4 y.2.2)
 else (y.1,z.2.1,xcP (decide ((z.2.1.length : Int) < z.1)) 3 z.2.2)
theorem xrT {α : Type} {p : Rd α} {q : List Int -> Int -> α × List Int × Int} (h : Rel p q) : Rel (xdE p) (xaG q) := by
 refine ⟨fun l x r hb e => ?_,fun l d hb e => ?_,fun l a ha => ?_⟩
 ·obtain ⟨n,r1,h1,h2⟩ := xaJ e
  obtain ⟨s,r2,h3,h4⟩ := xaJ h2
  obtain ⟨e1,hb1⟩ := Rel.num.ok l n r1 hb h1
  unfold xbR at h3
  split at h3
  ·rename_i hn
   simp only [Except.ok.injEq,Prod.mk.injEq] at h3
   obtain ⟨rfl,rfl⟩ := h3
   cases ha : xeW p (r1.take n.toNat) with
   | error e' => rw [ha] at h4; cases h4
   | ok v =>
    rw [ha] at h4
    simp only [Except.ok.injEq,Prod.mk.injEq] at h4
    obtain ⟨rfl,rfl⟩ := h4
    have hp := ybS ha
    obtain ⟨e2,_⟩ := h.ok _ _ _ (fun c hc => hb1 c (List.mem_of_mem_take hc)) hp
    refine ⟨?_,fun c hc => hb1 c (List.mem_of_mem_drop hc)⟩
    unfold xaG
    dsimp only
    rw [e1]
    dsimp only
    rw [e2,decide_eq_false (by omega)]
    rfl
  ·cases h3
 ·cases h1 : xeG l with
  | error d' =>
   unfold xdE at e
   rw [xaW h1] at e
   simp only [Except.error.injEq] at e
   subst e
   obtain ⟨e1,e2⟩ := Rel.num.err l d' hb h1
   refine ⟨?_,e2⟩
   unfold xaG
   dsimp only
   rw [e1,xcL e2,if_neg e2]
  | ok z =>
   obtain ⟨n,r1⟩ := z
   obtain ⟨e1,hb1⟩ := Rel.num.ok l n r1 hb h1
   unfold xdE at e
   rw [xaV h1] at e
   by_cases hn : n <= (r1.length : Int)
   ·have h3 : xbR n r1 = .ok (r1.take n.toNat,r1.drop n.toNat) := by unfold xbR; rw [if_pos hn]
    rw [xaV h3] at e
    have hbt : Bts (r1.take n.toNat) := fun c hc => hb1 c (List.mem_of_mem_take hc)
    unfold xaG
    dsimp only
    rw [e1]
    dsimp only
    rw [decide_eq_false (by omega),show xcP false 3 0 = 0 from rfl,if_pos rfl]
    dsimp only
    cases hp : p (r1.take n.toNat) with
    | error d' =>
     have ha : xeW p (r1.take n.toNat) = .error d' := by unfold xeW; rw [hp]
     rw [ha] at e
     simp only [Except.error.injEq] at e
     subst e
     obtain ⟨e2,e3⟩ := h.err _ _ hbt hp
     rw [e2,xcL e3]
     exact ⟨rfl,e3⟩
    | ok z =>
     obtain ⟨v,r2⟩ := z
     obtain ⟨e2,_⟩ := h.ok _ _ _ hbt hp
     rw [e2]
     dsimp only
     cases r2 with
     | nil =>
      have ha : xeW p (r1.take n.toNat) = .ok v := by unfold xeW; rw [hp]; rfl
      rw [ha] at e
      cases e
     | cons c t =>
      have ha : xeW p (r1.take n.toNat) = .error 4 := by unfold xeW; rw [hp]; rfl
      rw [ha] at e
      simp only [Except.error.injEq] at e
      subst e
      exact ⟨rfl,by decide⟩
   ·have h3 : xbR n r1 = .error 3 := by unfold xbR; rw [if_neg hn]
    rw [xaW h3] at e
    simp only [Except.error.injEq] at e
    subst e
    refine ⟨?_,by decide⟩
    unfold xaG
    dsimp only
    rw [e1]
    dsimp only
    rw [decide_eq_true (by omega),show xcP true 3 0 = 3 from rfl,if_neg (by decide)]
 ·unfold xaG
  dsimp only
  have : (xaK l a).2.2 = a := Rel.num.bad l a ha
  rw [this,xcL ha,if_neg ha]
theorem ycG : Rel xlM (xaG xfO) := xrT ygE
def xbS {α : Type} (q : List Int -> Int -> α × List Int × Int) : Nat -> List Int -> Int -> List α × List Int × Int
 | 0,l,a => ([],l,a)
 | n + 1,l,a => if a = 0 then ((q l a).1 :: (xbS q n (q l a).2.1 (q l a).2.2).1,(xbS q n (q l a).2.1 (q l a).2.2).2) else ([],l,a)
theorem xhZ {α : Type} (q : List Int -> Int -> α × List Int × Int) (n : Nat) (l : List Int) (a : Int) (h : a ≠ 0) : xbS q n l a = ([],l,a) := by
 cases n with
 | zero => rfl
 | succ n => rw [xbS,if_neg h]
theorem xnH {α : Type} {p : Rd α} {q : List Int -> Int -> α × List Int × Int} (h : Rel p q) : ∀ (n : Nat) (acc : List α),Rel (xaS p n acc) (fun l a => (acc ++ (xbS q n l a).1,(xbS q n l a).2))
 | 0,acc => by
  have := Rel.ret acc
  refine this.as (fun l a => rfl) (fun l _ => ?_)
  show (acc ++ [],l,(0 : Int)) = (acc,l,0)
  rw [List.append_nil]
 | n + 1,acc => by
  have k := h.nxt fun x => xnH h n (acc ++ [x])
  refine k.as (fun l a => ?_) (fun l _ => ?_)
  ·by_cases ha : a = 0
   ·subst ha
    show (xbS q (n + 1) l 0).2.2 = (xbS q n (q l 0).2.1 (q l 0).2.2).2.2
    rw [xbS,if_pos rfl]
   ·show (xbS q (n + 1) l a).2.2 = (xbS q n (q l a).2.1 (q l a).2.2).2.2
    have e : (q l a).2.2 = a := h.bad l a ha
    rw [xhZ q (n + 1) l a ha,xhZ q n _ _ (by rw [e]; exact ha),e]
  ·show (acc ++ (xbS q (n + 1) l 0).1,(xbS q (n + 1) l 0).2) = (acc ++ [(q l 0).1] ++ (xbS q n (q l 0).2.1 (q l 0).2.2).1,(xbS q n (q l 0).2.1 (q l 0).2.2).2)
   rw [xbS,if_pos rfl,List.append_assoc]
   rfl
def xaL {α : Type} (most : Int) (q : List Int -> Int -> α × List Int × Int) (l : List Int) (a : Int) : List α × List Int × Int := xbS q (xaN most l a).1.toNat (xaN most l a).2.1 (xaN most l a).2.2
theorem xeQ {α : Type} {p : Rd α} {q : List Int -> Int -> α × List Int × Int} (most : Int) (h : Rel p q) : Rel (xbP most p) (xaL most q) := by
 have k := (Rel.count most).nxt fun n => xnH h n.toNat []
 exact k.as (fun l a => rfl) (fun l _ => rfl)
def xaF (n : Nat) (d : DrV) (l : List Int) (a : Int) : DrV × List Int × Int := match n with
 | 1 => ({ d with types := (xaL 16 xhY l a).1 },(xaL 16 xhY l a).2)
 | 2 => ({ d with imports := (xaL 16 xpC l a).1 },(xaL 16 xpC l a).2)
 | 3 => ({ d with ftypes := (xaL 16 xaK l a).1 },(xaL 16 xaK l a).2)
 | 4 => ({ d with table := (xiC l a).1 },(xiC l a).2)
 | 5 => ({ d with pages := (xvB l a).1.1,most := (xvB l a).1.2 },(xvB l a).2)
 | 6 => ({ d with globals := (xaL 8 xgT l a).1 },(xaL 8 xgT l a).2)
 | 7 => ({ d with exports := (xaL 8 xoU l a).1 },(xaL 8 xoU l a).2)
 | 8 => ({ d with start := (xgI l a).1 },(xgI l a).2)
 | 9 => ({ d with elems := (xaL 4 xpB l a).1 },(xaL 4 xpB l a).2)
 | 10 => ({ d with codes := (xaL 16 (xaG xfO) l a).1 },(xaL 16 (xaG xfO) l a).2)
 | 11 => ({ d with data := (xaL 4 xlZ l a).1 },(xaL 4 xlZ l a).2)
 | _ => (d,l,a)
theorem ycH (n : Nat) (d : DrV) : Rel (xdD n d) (xaF n d) := by
 unfold xdD xaF
 split
 ·exact (xeQ 16 Rel.sigV).nxt fun x => Rel.ret _
 ·exact (xeQ 16 Rel.imp).nxt fun x => Rel.ret _
 ·exact (xeQ 16 Rel.num).nxt fun x => Rel.ret _
 ·exact Rel.table.nxt fun x => Rel.ret _
 ·exact relMem.nxt fun x => Rel.ret _
 ·exact (xeQ 8 Rel.glo).nxt fun x => Rel.ret _
 ·exact (xeQ 8 Rel.exp).nxt fun x => Rel.ret _
 ·exact relStart.nxt fun x => Rel.ret _
 ·exact (xeQ 4 Rel.ele).nxt fun x => Rel.ret _
 ·exact (xeQ 16 ycG).nxt fun x => Rel.ret _
 ·exact (xeQ 4 Rel.dat).nxt fun x => Rel.ret _
 ·refine (Rel.ret d).as (fun l a => ?_) (fun l _ => ?_) <;> (split <;> first | rfl | (exfalso; simp_all))
theorem xzM (last : Nat) (d : DrV) : rSecs last d [] = .ok d := by unfold rSecs; rfl
theorem xlI (last : Nat) (d : DrV) (b : Int) (l : List Int) (h : ¬ (1 <= b /\ b <= 11)) : rSecs last d (b :: l) = .error 6 := by
 rw [rSecs,dif_neg h]
theorem xtW (last : Nat) (d : DrV) (b : Int) (l : List Int) (h : 1 <= b /\ b <= 11) (h2 : ¬ (last : Int) < b) : rSecs last d (b :: l) = .error 4 := by
 rw [rSecs,dif_pos h,dif_neg h2]
theorem xvQ (last : Nat) (d : DrV) (b : Int) (l : List Int) (hb : Bts l) (h : 1 <= b /\ b <= 11) (h2 : (last : Int) < b) :
  ((xaG (xaF b.toNat d) l 0).2.2 = 0 -> rSecs last d (b :: l) = rSecs b.toNat (xaG (xaF b.toNat d) l 0).1 (xaG (xaF b.toNat d) l 0).2.1 /\ Bts (xaG (xaF b.toNat d) l 0).2.1) /\
  ((xaG (xaF b.toNat d) l 0).2.2 ≠ 0 -> rSecs last d (b :: l) = .error (xaG (xaF b.toNat d) l 0).2.2) := by
 have R := xrT (ycH b.toNat d)
 rw [rSecs,dif_pos h,dif_pos h2]
 cases hp : xdE (xdD b.toNat d) l with
 | error e =>
  obtain ⟨e1,e2⟩ := R.err l e hb hp
  rw [e1]
  exact ⟨fun h0 => absurd h0 e2,fun _ => rfl⟩
 | ok z =>
  obtain ⟨d1,r⟩ := z
  obtain ⟨e1,e2⟩ := R.ok l d1 r hb hp
  rw [e1]
  exact ⟨fun _ => ⟨rfl,e2⟩,fun h0 => absurd rfl h0⟩
def xcW : List Int -> List Int -> Int -> Unit × List Int × Int
 | [],l,a => ((),l,a)
 | b :: r,l,a => xcW r (xaA b 4 l a).1 (xaA b 4 l a).2
theorem xmR : ∀ h : List Int,Rel (xbO h) (xcW h)
 | [] => Rel.ret ()
 | b :: r => (Rel.fix b 4 (by decide)).nxt fun _ => xmR r
theorem xcB (l : List Int) (a : Int) (hb : ∀ b ∈ l,0 <= b /\ b < 256) : 0 <= (xaK l a).1 /\ (xaK l a).1 < 4294967296 := by
 unfold xaK
 split
 ·unfold xaT
  split
  ·rcases xrP l hb with ⟨e,he,hr,_⟩ | ⟨m,k,hm,_,_,hr,_⟩
   ·rw [hr]; exact ⟨Int.le_refl _,(by decide : (0 : Int) < 4294967296)⟩
   ·rw [hr]; dsimp only; omega
  ·exact ⟨Int.le_refl _,(by decide : (0 : Int) < 4294967296)⟩
 ·exact ⟨Int.le_refl _,(by decide : (0 : Int) < 4294967296)⟩
def xqH (B P : Nat) (l : List Int) (n a : Int) (Post : List Int -> List Int -> Int -> World -> Prop) (w w' : World) : Prop :=
 Below B w w' /\
 ((xcP (decide (((xaK l a).2.1.length : Int) < (xaK l a).1)) 3 (xaK l a).2.2 ≠ 0 /\ CL w' P (xaK l a).2.1 n (xcP (decide (((xaK l a).2.1.length : Int) < (xaK l a).1)) 3 (xaK l a).2.2) /\ Chg P w w') \/
  (xcP (decide (((xaK l a).2.1.length : Int) < (xaK l a).1)) 3 (xaK l a).2.2 = 0 /\ ∃ l' a',Post ((xaK l a).2.1.take (xaK l a).1.toNat) l' a' w' /\
   CL w' P (if xcP (!l'.isEmpty) 4 a' = 0 then (xaK l a).2.1.drop (xaK l a).1.toNat else (xaK l a).2.1) n (xcP (!l'.isEmpty) 4 a')))
theorem xoX (B P : Nat) (c1 : Value) (l : List Int) (n a : Int) (w : World) (h : CL w P l n a) (hB : B <= P) (hBw : B <= w.heap.size) (Pre : World -> Prop) (Post : List Int -> List Int -> Int -> World -> Prop)
  (hpre : ∀ w',Chg P w w' -> Pre w')
  (hcl : ∀ (w1 : World) (D : Nat) (t : List Int),Pre w1 -> CL w1 D t (t.length : Int) 0 -> D ≠ P -> w.heap.size <= D -> P < w1.heap.size -> Calls Tryz.prog 69 #[.pointer (some ⟨D,0,none⟩),c1] w1 fun r w2 => r = .returned (.tuple #[]) /\ ∃ l' a',CL w2 D l' (t.length : Int) a' /\ Post t l' a' w2 /\ w2.heap[P]? = w1.heap[P]? /\ Below B w1 w2)
  (hpost : ∀ t l' a' w2 w3 D,Post t l' a' w2 -> (D = P \/ w.heap.size <= D) -> (∃ l n a,CL w2 D l n a) -> Chg D w2 w3 -> Post t l' a' w3) :
  Calls Tryz.prog 14 #[.pointer (some ⟨P,0,none⟩),.func (.func 69) #[] #[c1]] w fun r w' => r = .returned (.tuple #[]) /\ xqH B P l n a Post w w' := by
 have HO := kZz (xoC P l n a w h)
 have HPRE := kZz hpre
 have HCL := kZz hcl
 have HPOST := kZz hpost
 unfold xqH
 have hx0 := xcB l a h.byte
 generalize xaK l a = z at HO hx0 ⊢
 obtain ⟨x,l1,a1⟩ := z
 dsimp only at HO hx0 ⊢
 obtain ⟨A,hA⟩ : ∃ A,A = xcP (decide ((l1.length : Int) < x)) 3 a1 := ⟨_,rfl⟩
 rw [<- hA]
 have HAD := kZz hA
 clear h hpre hcl hpost hA
 go_enter Tryz.func14,Tryz.ntmps14
 go_wp2_with fail
 refine HO.out.mono ?_
 rintro r w1 ⟨rfl,h1,c1⟩
 obtain ⟨s,hs,hm,hc⟩ := h1
 obtain ⟨z0,z1,z2⟩ := hc.cell
 have HL : Hid (CL w1 P l1 n a1) := ⟨s,hs,hm,hc⟩
 have HSZ : Hid (s.size = l1.length) := by unfold Hid; rw [<- hs,xaY]
 have HNS : Hid (xaX s = l1) := hs
 have hmx : s.size <= 9223372036854775807 := by unfold maxLen at hm; omega
 have HG := kZz c1
 clear hs hm hc c1 HO
 go_wp2_with fail
 refine (HL.out.say _ _).mono ?_
 rintro r w2 ⟨rfl,h2,c2⟩
 have h3 : CL w2 P l1 n A := by
  rw [HAD.out]
  rw [HSZ.out] at h2
  exact h2
 have HG2 : Hid (Chg P w w2) := HG.out.trans c2
 have HB2 : Hid (Below B w w2) := HG2.out.below hB hBw
 obtain ⟨s2,hs2,hm2,hc2⟩ := h3
 have HSS : Hid (s2.size = l1.length) := by unfold Hid; rw [<- hs2,xaY]
 have HNS2 : Hid (xaX s2 = l1) := hs2
 have HC2 : Hid (CS w2 P s2 n A) := hc2
 have HM2 : Hid (s2.size <= maxLen) := hm2
 have hm3 : s2.size <= 9223372036854775807 := by unfold maxLen at hm2; omega
 clear z0 z1 z2
 obtain ⟨z0,z1,z2⟩ := hc2.cell
 clear h2 c2 HL HG hs2 hm2 hc2
 by_cases h0 : A = 0
 ·subst h0
  have hxl : x <= (s2.size : Int) := by
   have := HAD.out
   unfold xcP at this
   rw [HSS.out]
   by_cases hlt : (l1.length : Int) < x
   ·rw [decide_eq_true hlt,if_pos rfl] at this
    exfalso
    unfold xbD at this
    split at this
    ·cases this
    ·rename_i hq; exact hq this.symm
   ·omega
  obtain ⟨k,rfl⟩ : ∃ k : Nat,x = (k : Int) := ⟨x.toNat,by omega⟩
  have hk0 : (0 : Int) <= (k : Int) := by omega
  have HOV : Hid (∀ w',Calls Tryz.prog 10 #[.string (s2.extract 0 k)] w' fun r w'' => r = .returned (.pointer (some ⟨w'.heap.size,0,none⟩)) /\ CS w'' w'.heap.size (s2.extract 0 k) (s2.extract 0 k).size 0 /\ Below w'.heap.size w' w'') := fun w' => xjS (s2.extract 0 k) (by rw [ByteArray.size_extract]; omega) w'
  go_wp2_with fail
  refine (HOV.out _).mono ?_
  rintro r w3 ⟨rfl,h3,b3⟩
  have hPlt : P < w2.heap.size := HC2.out.lt
  have HG3 : Hid (Chg P w w3) := HG2.out.trans (Chg.of_below b3)
  have HC3 : Hid (CS w3 P s2 n 0) := HC2.out.below b3
  have HD3 : Hid (CL w3 w2.heap.size ((l1.take k)) ((l1.take k).length : Int) 0) := by
   refine ⟨s2.extract 0 k,by rw [xcV,HNS2.out,List.drop_zero,Nat.sub_zero],by rw [ByteArray.size_extract]; unfold maxLen; omega,?_⟩
   have : (s2.extract 0 k).size = (l1.take k).length := by rw [ByteArray.size_extract,List.length_take,HSS.out]; omega
   rw [<- this]
   exact h3
  have HWD : Hid (w.heap.size <= w2.heap.size) := HG2.out.size
  obtain ⟨D,hD⟩ : ∃ D,D = w2.heap.size := ⟨_,rfl⟩
  have HPD : Hid (P < D) := by unfold Hid; rw [hD]; exact hPlt
  rw [<- hD] at HD3 HWD
  have HCC := kZz (HCL.out w3 D (l1.take k) (HPRE.out w3 HG3.out) HD3.out (by have := HPD.out; omega) HWD.out HC3.out.lt)
  have HDE : Hid (D = w2.heap.size) := hD
  have HB3 : Hid (Below B w w3) := HG3.out.below hB hBw
  clear h3 b3 hD HOV HD3 HCL HPRE hPlt z0 z1 z2
  go_wp2_with fail
  rw [<- HDE.out]
  refine HCC.out.mono ?_
  rintro r w4 ⟨rfl,l',a',h4,hp4,hP4,b4⟩
  obtain ⟨s4,hs4,hm4,hc4⟩ := h4
  have HP4 := kZz hp4
  have HB4 : Hid (Below B w w4) := HB3.out.trans b4
  have HC4 : Hid (CS w4 P s2 n 0) := hP4.trans HC3.out
  have HL4 : Hid (CL w4 D l' ((l1.take k).length : Int) a') := ⟨s4,hs4,hm4,hc4⟩
  have hte : s4.toList.isEmpty = l'.isEmpty := by
   rw [Lib.toList_data,<- hs4]
   unfold xaX
   rw [List.isEmpty_map]
  obtain ⟨y0,y1,y2⟩ := hc4.cell
  clear hp4 hP4 b4 hs4 hm4 hc4 HCC HB3 HC3 HG3
  go_wp2_with fail
  refine (HL4.out.say _ _).mono ?_
  rintro r w5 ⟨rfl,h5,c5⟩
  obtain ⟨S,hS⟩ : ∃ S,S = xcP (!l'.isEmpty) 4 a' := ⟨_,rfl⟩
  have h5' : CL w5 D l' ((l1.take k).length : Int) S := by rw [hS]; exact h5
  have HSD := kZz hS
  have HP5 := kZz (HPOST.out _ _ _ _ _ D HP4.out (Or.inr HWD.out) ⟨_,_,_,HL4.out⟩ c5)
  have hDP : P ≠ D := by have := HPD.out; omega
  have HC5 : Hid (CS w5 P s2 n 0) := (c5.block P HC4.out.lt hDP).trans HC4.out
  have hBD : B <= D := by have := HPD.out; omega
  have HB5 : Hid (Below B w w5) := HB4.out.trans (c5.below hBD (Nat.le_trans hBw HB4.out.size))
  obtain ⟨s5,hs5,hm5,hc5⟩ := h5'
  clear y0 y1 y2 hte
  obtain ⟨y0,y1,y2⟩ := hc5.cell
  clear h5 c5 hs5 hm5 hc5 hS HL4 HP4 HB4 HC4
  by_cases h0 : S = 0
  ·subst h0
   have hks : k <= s2.size := by omega
   go_wp2_with fail
   refine (xiZ P s2 n k _ HC5.out hks HM2.out).mono ?_
   rintro r w6 ⟨rfl,h6,c6⟩
   have HP6 := kZz (HPOST.out _ _ _ _ _ P HP5.out (Or.inl rfl) ⟨_,_,_,⟨s2,rfl,HM2.out,HC5.out⟩⟩ c6)
   have HB6 : Hid (Below B w w6) := HB5.out.trans (c6.below hB (Nat.le_trans hBw HB5.out.size))
   have HL6 : Hid (CL w6 P (l1.drop k) n 0) := ⟨_,by rw [xbN,HNS2.out],xbF s2 k HM2.out,h6⟩
   clear h6 c6 HP5 HB5 HC5 y0 y1 y2
   go_wp2
   go_end0
   refine ⟨rfl,HB6.out,⟨l',a',HP6.out,?_⟩⟩
   rw [<- HSD.out,if_pos rfl]
   exact HL6.out
  ·have HN0 : Hid (S ≠ 0) := h0
   clear h0
   go_wp2_with fail
   refine (xgV P s2 n 0 S (k : Int) _ HC5.out HN0.out).mono ?_
   rintro r w6 ⟨rfl,h6,c6⟩
   have HP6 := kZz (HPOST.out _ _ _ _ _ P HP5.out (Or.inl rfl) ⟨_,_,_,⟨s2,rfl,HM2.out,HC5.out⟩⟩ c6)
   have HB6 : Hid (Below B w w6) := HB5.out.trans (c6.below hB (Nat.le_trans hBw HB5.out.size))
   have HL6 : Hid (CL w6 P l1 n S) := ⟨s2,HNS2.out,HM2.out,by rw [xdG] at h6; exact h6⟩
   clear h6 c6 HP5 HB5 HC5 y0 y1 y2
   go_wp2
   go_end0
   refine ⟨rfl,HB6.out,⟨l',a',HP6.out,?_⟩⟩
   rw [<- HSD.out,if_neg HN0.out]
   exact HL6.out
 ·have hb : (A == 0) = false := by rw [beq_eq_false_iff_ne]; exact h0
  have hb2 : (A != 0) = true := by rw [bne,hb]; rfl
  have HN0 : Hid (A ≠ 0) := h0
  clear h0
  go_wp2
  exact ⟨rfl,_,results_none rfl _ _ _,rfl,HB2.out,Or.inl ⟨HN0.out,⟨s2,HNS2.out,HM2.out,HC2.out⟩,HG2.out⟩⟩
theorem xpD (B P : Nat) (c1 c2 c3 : Value) (l : List Int) (n a : Int) (w : World) (h : CL w P l n a) (hB : B <= P) (hBw : B <= w.heap.size) (Pre : World -> Prop) (Post : List Int -> List Int -> Int -> World -> Prop)
  (hpre : ∀ w',Chg P w w' -> Pre w')
  (hcl : ∀ (w1 : World) (D : Nat) (t : List Int),Pre w1 -> CL w1 D t (t.length : Int) 0 -> D ≠ P -> w.heap.size <= D -> P < w1.heap.size -> Calls Tryz.prog 15 #[.pointer (some ⟨D,0,none⟩),c1,c2,c3] w1 fun r w2 => r = .returned (.tuple #[]) /\ ∃ l' a',CL w2 D l' (t.length : Int) a' /\ Post t l' a' w2 /\ w2.heap[P]? = w1.heap[P]? /\ Below B w1 w2)
  (hpost : ∀ t l' a' w2 w3 D,Post t l' a' w2 -> (D = P \/ w.heap.size <= D) -> (∃ l n a,CL w2 D l n a) -> Chg D w2 w3 -> Post t l' a' w3) :
  Calls Tryz.prog 14 #[.pointer (some ⟨P,0,none⟩),.func (.func 15) #[] #[c1,c2,c3]] w fun r w' => r = .returned (.tuple #[]) /\ xqH B P l n a Post w w' := by
 have HO := kZz (xoC P l n a w h)
 have HPRE := kZz hpre
 have HCL := kZz hcl
 have HPOST := kZz hpost
 unfold xqH
 have hx0 := xcB l a h.byte
 generalize xaK l a = z at HO hx0 ⊢
 obtain ⟨x,l1,a1⟩ := z
 dsimp only at HO hx0 ⊢
 obtain ⟨A,hA⟩ : ∃ A,A = xcP (decide ((l1.length : Int) < x)) 3 a1 := ⟨_,rfl⟩
 rw [<- hA]
 have HAD := kZz hA
 clear h hpre hcl hpost hA
 go_enter Tryz.func14,Tryz.ntmps14
 go_wp2_with fail
 refine HO.out.mono ?_
 rintro r w1 ⟨rfl,h1,c1⟩
 obtain ⟨s,hs,hm,hc⟩ := h1
 obtain ⟨z0,z1,z2⟩ := hc.cell
 have HL : Hid (CL w1 P l1 n a1) := ⟨s,hs,hm,hc⟩
 have HSZ : Hid (s.size = l1.length) := by unfold Hid; rw [<- hs,xaY]
 have HNS : Hid (xaX s = l1) := hs
 have hmx : s.size <= 9223372036854775807 := by unfold maxLen at hm; omega
 have HG := kZz c1
 clear hs hm hc c1 HO
 go_wp2_with fail
 refine (HL.out.say _ _).mono ?_
 rintro r w2 ⟨rfl,h2,c2⟩
 have h3 : CL w2 P l1 n A := by
  rw [HAD.out]
  rw [HSZ.out] at h2
  exact h2
 have HG2 : Hid (Chg P w w2) := HG.out.trans c2
 have HB2 : Hid (Below B w w2) := HG2.out.below hB hBw
 obtain ⟨s2,hs2,hm2,hc2⟩ := h3
 have HSS : Hid (s2.size = l1.length) := by unfold Hid; rw [<- hs2,xaY]
 have HNS2 : Hid (xaX s2 = l1) := hs2
 have HC2 : Hid (CS w2 P s2 n A) := hc2
 have HM2 : Hid (s2.size <= maxLen) := hm2
 have hm3 : s2.size <= 9223372036854775807 := by unfold maxLen at hm2; omega
 clear z0 z1 z2
 obtain ⟨z0,z1,z2⟩ := hc2.cell
 clear h2 c2 HL HG hs2 hm2 hc2
 by_cases h0 : A = 0
 ·subst h0
  have hxl : x <= (s2.size : Int) := by
   have := HAD.out
   unfold xcP at this
   rw [HSS.out]
   by_cases hlt : (l1.length : Int) < x
   ·rw [decide_eq_true hlt,if_pos rfl] at this
    exfalso
    unfold xbD at this
    split at this
    ·cases this
    ·rename_i hq; exact hq this.symm
   ·omega
  obtain ⟨k,rfl⟩ : ∃ k : Nat,x = (k : Int) := ⟨x.toNat,by omega⟩
  have hk0 : (0 : Int) <= (k : Int) := by omega
  have HOV : Hid (∀ w',Calls Tryz.prog 10 #[.string (s2.extract 0 k)] w' fun r w'' => r = .returned (.pointer (some ⟨w'.heap.size,0,none⟩)) /\ CS w'' w'.heap.size (s2.extract 0 k) (s2.extract 0 k).size 0 /\ Below w'.heap.size w' w'') := fun w' => xjS (s2.extract 0 k) (by rw [ByteArray.size_extract]; omega) w'
  go_wp2_with fail
  refine (HOV.out _).mono ?_
  rintro r w3 ⟨rfl,h3,b3⟩
  have hPlt : P < w2.heap.size := HC2.out.lt
  have HG3 : Hid (Chg P w w3) := HG2.out.trans (Chg.of_below b3)
  have HC3 : Hid (CS w3 P s2 n 0) := HC2.out.below b3
  have HD3 : Hid (CL w3 w2.heap.size ((l1.take k)) ((l1.take k).length : Int) 0) := by
   refine ⟨s2.extract 0 k,by rw [xcV,HNS2.out,List.drop_zero,Nat.sub_zero],by rw [ByteArray.size_extract]; unfold maxLen; omega,?_⟩
   have : (s2.extract 0 k).size = (l1.take k).length := by rw [ByteArray.size_extract,List.length_take,HSS.out]; omega
   rw [<- this]
   exact h3
  have HWD : Hid (w.heap.size <= w2.heap.size) := HG2.out.size
  obtain ⟨D,hD⟩ : ∃ D,D = w2.heap.size := ⟨_,rfl⟩
  have HPD : Hid (P < D) := by unfold Hid; rw [hD]; exact hPlt
  rw [<- hD] at HD3 HWD
  have HCC := kZz (HCL.out w3 D (l1.take k) (HPRE.out w3 HG3.out) HD3.out (by have := HPD.out; omega) HWD.out HC3.out.lt)
  have HDE : Hid (D = w2.heap.size) := hD
  have HB3 : Hid (Below B w w3) := HG3.out.below hB hBw
  clear h3 b3 hD HOV HD3 HCL HPRE hPlt z0 z1 z2
  go_wp2_with fail
  rw [<- HDE.out]
  refine HCC.out.mono ?_
  rintro r w4 ⟨rfl,l',a',h4,hp4,hP4,b4⟩
  obtain ⟨s4,hs4,hm4,hc4⟩ := h4
  have HP4 := kZz hp4
  have HB4 : Hid (Below B w w4) := HB3.out.trans b4
  have HC4 : Hid (CS w4 P s2 n 0) := hP4.trans HC3.out
  have HL4 : Hid (CL w4 D l' ((l1.take k).length : Int) a') := ⟨s4,hs4,hm4,hc4⟩
  have hte : s4.toList.isEmpty = l'.isEmpty := by
   rw [Lib.toList_data,<- hs4]
   unfold xaX
   rw [List.isEmpty_map]
  obtain ⟨y0,y1,y2⟩ := hc4.cell
  clear hp4 hP4 b4 hs4 hm4 hc4 HCC HB3 HC3 HG3
  go_wp2_with fail
  refine (HL4.out.say _ _).mono ?_
  rintro r w5 ⟨rfl,h5,c5⟩
  obtain ⟨S,hS⟩ : ∃ S,S = xcP (!l'.isEmpty) 4 a' := ⟨_,rfl⟩
  have h5' : CL w5 D l' ((l1.take k).length : Int) S := by rw [hS]; exact h5
  have HSD := kZz hS
  have HP5 := kZz (HPOST.out _ _ _ _ _ D HP4.out (Or.inr HWD.out) ⟨_,_,_,HL4.out⟩ c5)
  have hDP : P ≠ D := by have := HPD.out; omega
  have HC5 : Hid (CS w5 P s2 n 0) := (c5.block P HC4.out.lt hDP).trans HC4.out
  have hBD : B <= D := by have := HPD.out; omega
  have HB5 : Hid (Below B w w5) := HB4.out.trans (c5.below hBD (Nat.le_trans hBw HB4.out.size))
  obtain ⟨s5,hs5,hm5,hc5⟩ := h5'
  clear y0 y1 y2 hte
  obtain ⟨y0,y1,y2⟩ := hc5.cell
  clear h5 c5 hs5 hm5 hc5 hS HL4 HP4 HB4 HC4
  by_cases h0 : S = 0
  ·subst h0
   have hks : k <= s2.size := by omega
   go_wp2_with fail
   refine (xiZ P s2 n k _ HC5.out hks HM2.out).mono ?_
   rintro r w6 ⟨rfl,h6,c6⟩
   have HP6 := kZz (HPOST.out _ _ _ _ _ P HP5.out (Or.inl rfl) ⟨_,_,_,⟨s2,rfl,HM2.out,HC5.out⟩⟩ c6)
   have HB6 : Hid (Below B w w6) := HB5.out.trans (c6.below hB (Nat.le_trans hBw HB5.out.size))
   have HL6 : Hid (CL w6 P (l1.drop k) n 0) := ⟨_,by rw [xbN,HNS2.out],xbF s2 k HM2.out,h6⟩
   clear h6 c6 HP5 HB5 HC5 y0 y1 y2
   go_wp2
   go_end0
   refine ⟨rfl,HB6.out,⟨l',a',HP6.out,?_⟩⟩
   rw [<- HSD.out,if_pos rfl]
   exact HL6.out
  ·have HN0 : Hid (S ≠ 0) := h0
   clear h0
   go_wp2_with fail
   refine (xgV P s2 n 0 S (k : Int) _ HC5.out HN0.out).mono ?_
   rintro r w6 ⟨rfl,h6,c6⟩
   have HP6 := kZz (HPOST.out _ _ _ _ _ P HP5.out (Or.inl rfl) ⟨_,_,_,⟨s2,rfl,HM2.out,HC5.out⟩⟩ c6)
   have HB6 : Hid (Below B w w6) := HB5.out.trans (c6.below hB (Nat.le_trans hBw HB5.out.size))
   have HL6 : Hid (CL w6 P l1 n S) := ⟨s2,HNS2.out,HM2.out,by rw [xdG] at h6; exact h6⟩
   clear h6 c6 HP5 HB5 HC5 y0 y1 y2
   go_wp2
   go_end0
   refine ⟨rfl,HB6.out,⟨l',a',HP6.out,?_⟩⟩
   rw [<- HSD.out,if_neg HN0.out]
   exact HL6.out
 ·have hb : (A == 0) = false := by rw [beq_eq_false_iff_ne]; exact h0
  have hb2 : (A != 0) = true := by rw [bne,hb]; rfl
  have HN0 : Hid (A ≠ 0) := h0
  clear h0
  go_wp2
  exact ⟨rfl,_,results_none rfl _ _ _,rfl,HB2.out,Or.inl ⟨HN0.out,⟨s2,HNS2.out,HM2.out,HC2.out⟩,HG2.out⟩⟩
end Go.Proofs.YtmmjgdaamkdncaaGreatDoor
