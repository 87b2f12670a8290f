/-
  The parts of a module as bytes: plain mathematics.
  A module as bytes: its sections: plain mathematics.
  An error of reading is none.
-/
import Derived.Test.YtakpkdckajjooaaGreatDoorPBRd
import Derived.Test.YtakpkdckajjooaaGreatDoorPQA
import Derived.Lib.ValidU
set_option maxHeartbeats 1000000
namespace Go.Proofs.YtakpkdckajjooaaGreatDoor
set_option linter.unusedVariables false
open Go.RowKit
structure SigV where
  i : List Int
  o : List Int
structure NamV where
  s : List Int
  n : Int
structure GloV where
  k : Int
  m : Bool
  s : Int
structure EleV where
  a : Int
  f : List Int
structure DatV where
  a : Int
  s : List Int
structure CodV where
  l : List Int
  b : List V4
def isK (k : Int) : Bool := k == 127 || k == 126
def rKind : Rd Int := nxt rNext fun k => nxt (need (isK k) 6) fun _ => ret k
theorem isK_or {k : Int} (h : isK k = true) : k = 127 ∨ k = 126 := by
  unfold isK at h
  simpa using h
theorem cod_kind : Cod rKind (fun k => isK k = true) fun k => [k] := by
  constructor
  · intro l a r hl h
    obtain ⟨n, r1, h1, h2⟩ := nxt_ok h
    obtain ⟨_, r2, h3, h4⟩ := nxt_ok h2
    obtain ⟨h5, rfl⟩ := need_ok h3
    simp only [ret, Except.ok.injEq, Prod.mk.injEq] at h4
    obtain ⟨rfl, rfl⟩ := h4
    rw [rNext_ok h1]
    exact ⟨h5, List.suffix_cons _ _, by simp; omega⟩
  · intro a more ha
    unfold rKind
    rw [List.singleton_append, nxt_of (show rNext (a :: more) = .ok (a, more) from rfl), nxt_of (need_of ha _ _)]
    rfl
def txt (l : List Int) : List UInt8 := l.map fun n => UInt8.ofNat n.toNat
def okName (s : List Int) : Bool := Lib.validD (txt s)
def rName : Rd (List Int) := nxt (rCount 16) fun n => nxt (rPiece n) fun s => nxt (need (okName s) 4) fun _ => ret s
def GName (s : List Int) : Prop := s.length ≤ 16 ∧ Bts s ∧ okName s = true
def tName (s : List Int) : List Int := uB s.length ++ s
theorem cod_name : Cod rName GName tName := by
  constructor
  · intro l a r hl h
    obtain ⟨n, r1, h1, h2⟩ := nxt_ok h
    obtain ⟨s, r2, h3, h4⟩ := nxt_ok h2
    obtain ⟨_, r3, h5, h6⟩ := nxt_ok h4
    obtain ⟨h7, rfl⟩ := need_ok h5
    simp only [ret, Except.ok.injEq, Prod.mk.injEq] at h6
    obtain ⟨rfl, rfl⟩ := h6
    obtain ⟨g1, g2, g3⟩ := (cod_count 16 (by omega)).ok _ _ _ hl h1
    obtain ⟨h8, h9⟩ := rPiece_ok g1.1 h3
    have hb := hl.suf g2
    refine ⟨⟨by omega, fun b hb' => hb b (by rw [h8]; simp [hb']), h7⟩, List.IsSuffix.trans ⟨s, h8.symm⟩ g2, ?_⟩
    unfold tName
    rw [h8, List.length_append] at g3
    rw [List.length_append, show s.length = n.toNat by omega]
    omega
  · intro a more ha
    unfold rName tName
    rw [List.append_assoc, nxt_of (count_back 16 (by omega) a.length (by have := ha.1; omega) _), nxt_of (rPiece_back a more), nxt_of (need_of ha.2.2 _ _)]
    rfl
def rSig : Rd SigV := nxt (rFix 96 4) fun _ => nxt (rList 4 rKind) fun i => nxt (rList 1 rKind) fun o => ret ⟨i, o⟩
def GKs (most : Int) (l : List Int) : Prop := (l.length : Int) ≤ most ∧ ∀ k ∈ l, isK k = true
def tKs (l : List Int) : List Int := tList (fun k => [k]) l
def GSig (s : SigV) : Prop := GKs 4 s.i ∧ GKs 1 s.o
def tSig (s : SigV) : List Int := 96 :: (tKs s.i ++ tKs s.o)
theorem cod_ks (most : Int) (h : most ≤ 4294967295) : Cod (rList most rKind) (GKs most) tKs := cod_list cod_kind most h
theorem cod_sig : Cod rSig GSig tSig := by
  constructor
  · intro l a r hl h
    obtain ⟨_, r1, h1, h2⟩ := nxt_ok h
    obtain ⟨i, r2, h3, h4⟩ := nxt_ok h2
    obtain ⟨o, r3, h5, h6⟩ := nxt_ok h4
    simp only [ret, Except.ok.injEq, Prod.mk.injEq] at h6
    obtain ⟨rfl, rfl⟩ := h6
    have e1 := rFix_ok h1
    have b1 : r1 <:+ l := by rw [e1]; exact List.suffix_cons _ _
    obtain ⟨g1, g2, g3⟩ := (cod_ks 4 (by omega)).ok _ _ _ (hl.suf b1) h3
    obtain ⟨k1, k2, k3⟩ := (cod_ks 1 (by omega)).ok _ _ _ (hl.suf (g2.trans b1)) h5
    refine ⟨⟨g1, k1⟩, k2.trans (g2.trans b1), ?_⟩
    have e2 : l.length = r1.length + 1 := by rw [e1]; rfl
    unfold tSig
    rw [List.length_cons, List.length_append]
    dsimp only
    omega
  · intro a more ha
    unfold rSig tSig
    rw [List.cons_append, List.append_assoc, nxt_of (rFix_back 96 4 _), nxt_of ((cod_ks 4 (by omega)).back a.i _ ha.1), nxt_of ((cod_ks 1 (by omega)).back a.o _ ha.2)]
    rfl
def host : List Int := [104, 111, 115, 116]
def rImp : Rd NamV := nxt rName fun h => nxt (need (h == host) 6) fun _ => nxt rName fun s => nxt (rFix 0 6) fun _ => nxt rNum fun n => ret ⟨s, n⟩
def GNam (d : NamV) : Prop := GName d.s ∧ isNum d.n
def tExp (d : NamV) : List Int := tName d.s ++ 0 :: uB d.n.toNat
def tImp (d : NamV) : List Int := tName host ++ tExp d
theorem okHost : GName host := by
  refine ⟨by decide, fun b hb => by simp [host] at hb; omega, ?_⟩
  decide +kernel
def rExp : Rd NamV := nxt rName fun s => nxt (rFix 0 6) fun _ => nxt rNum fun n => ret ⟨s, n⟩
theorem cod_exp : Cod rExp GNam tExp := by
  constructor
  · intro l a r hl h
    obtain ⟨s, r1, h1, h2⟩ := nxt_ok h
    obtain ⟨_, r2, h3, h4⟩ := nxt_ok h2
    obtain ⟨n, r3, h5, h6⟩ := nxt_ok h4
    simp only [ret, Except.ok.injEq, Prod.mk.injEq] at h6
    obtain ⟨rfl, rfl⟩ := h6
    obtain ⟨g1, g2, g3⟩ := cod_name.ok _ _ _ hl h1
    have e1 := rFix_ok h3
    have b1 : r2 <:+ r1 := by rw [e1]; exact List.suffix_cons _ _
    obtain ⟨k1, k2, k3⟩ := cod_num.ok _ _ _ (hl.suf (b1.trans g2)) h5
    refine ⟨⟨g1, k1⟩, k2.trans (b1.trans g2), ?_⟩
    have e2 : r1.length = r2.length + 1 := by rw [e1]; rfl
    unfold tExp
    rw [List.length_append, List.length_cons]
    dsimp only
    omega
  · intro a more ha
    unfold rExp tExp
    rw [List.append_assoc, nxt_of (cod_name.back a.s _ ha.1), List.cons_append, nxt_of (rFix_back 0 6 _), nxt_of (cod_num.back a.n _ ha.2)]
    rfl
theorem rImp_eq (l : List Int) : rImp l = nxt rName (fun h => nxt (need (h == host) 6) fun _ => rExp) l := rfl
theorem cod_imp : Cod rImp GNam tImp := by
  constructor
  · intro l a r hl h
    rw [rImp_eq] at h
    obtain ⟨s, r1, h1, h2⟩ := nxt_ok h
    obtain ⟨_, r2, h3, h4⟩ := nxt_ok h2
    obtain ⟨h5, rfl⟩ := need_ok h3
    obtain ⟨g1, g2, g3⟩ := cod_name.ok _ _ _ hl h1
    obtain ⟨k1, k2, k3⟩ := cod_exp.ok _ _ _ (hl.suf g2) h4
    have e : s = host := eq_of_beq h5
    subst e
    refine ⟨k1, k2.trans g2, ?_⟩
    unfold tImp
    rw [List.length_append]
    omega
  · intro a more ha
    rw [rImp_eq]
    unfold tImp
    rw [List.append_assoc, nxt_of (cod_name.back host _ okHost), nxt_of (need_of (by simp) _ _), cod_exp.back a more ha]
def cst (k : Int) : Int := if k = 126 then 66 else 65
def bts (k : Int) : Int := if k = 126 then 64 else 32
def rGlo : Rd GloV := nxt rKind fun k => nxt rNext fun m => nxt (need (decide (m ≤ 1)) 4) fun _ => nxt rNext fun op => nxt (need (op == 65 || op == 66) 6) fun _ => nxt (need (op == cst k) 4) fun _ => nxt (rSgn (bts k)) fun s => nxt (rFix 11 4) fun _ => ret ⟨k, m == 1, s⟩
def GGlo (g : GloV) : Prop := isK g.k = true ∧ isSgn (bts g.k) g.s
def tGlo (g : GloV) : List Int := g.k :: (if g.m then 1 else 0) :: cst g.k :: (sB g.s ++ [11])
theorem bts_or (k : Int) : bts k = 32 ∨ bts k = 64 := by
  unfold bts
  split
  · exact Or.inr rfl
  · exact Or.inl rfl
theorem cst_or (k : Int) : (cst k == 65 || cst k == 66) = true := by
  unfold cst
  split <;> rfl
theorem cod_glo : Cod rGlo GGlo tGlo := by
  constructor
  · intro l a r hl h
    obtain ⟨k, r1, h1, h2⟩ := nxt_ok h
    obtain ⟨m, r2, h3, h4⟩ := nxt_ok h2
    obtain ⟨_, r3, h5, h6⟩ := nxt_ok h4
    obtain ⟨_, rfl⟩ := need_ok h5
    obtain ⟨op, r4, h7, h8⟩ := nxt_ok h6
    obtain ⟨_, r5, h9, h10⟩ := nxt_ok h8
    obtain ⟨_, rfl⟩ := need_ok h9
    obtain ⟨_, r6, h11, h12⟩ := nxt_ok h10
    obtain ⟨_, rfl⟩ := need_ok h11
    obtain ⟨s, r7, h13, h14⟩ := nxt_ok h12
    obtain ⟨_, r8, h15, h16⟩ := nxt_ok h14
    simp only [ret, Except.ok.injEq, Prod.mk.injEq] at h16
    obtain ⟨rfl, rfl⟩ := h16
    obtain ⟨g1, g2, g3⟩ := cod_kind.ok _ _ _ hl h1
    have e3 := rNext_ok h3
    have e7 := rNext_ok h7
    have e15 := rFix_ok h15
    have s3 : r6 <:+ r1 := by rw [e3, e7]; exact ⟨[m, op], rfl⟩
    obtain ⟨k1, k2, k3⟩ := (cod_sgn _ (bts_or k)).ok _ _ _ (hl.suf (s3.trans g2)) h13
    have s4 : r8 <:+ r7 := by rw [e15]; exact List.suffix_cons _ _
    refine ⟨⟨g1, k1⟩, s4.trans (k2.trans (s3.trans g2)), ?_⟩
    have l3 : r1.length = r6.length + 2 := by rw [e3, e7]; rfl
    have l4 : r7.length = r8.length + 1 := by rw [e15]; rfl
    unfold tGlo
    simp only [List.length_cons, List.length_append, List.length_nil] at g3 ⊢
    omega
  · intro a more ha
    unfold rGlo tGlo
    have hk := cod_kind.back a.k ((if a.m then 1 else 0) :: cst a.k :: (sB a.s ++ [11]) ++ more) ha.1
    rw [List.singleton_append] at hk
    rw [List.cons_append, nxt_of hk, List.cons_append, nxt_of (show rNext _ = .ok (_, _) from rfl), nxt_of (need_of (by cases a.m <;> decide) _ _), List.cons_append, nxt_of (show rNext _ = .ok (_, _) from rfl), nxt_of (need_of (cst_or _) _ _), nxt_of (need_of (by simp) _ _), List.append_assoc, nxt_of ((cod_sgn _ (bts_or _)).back a.s _ ha.2), List.singleton_append, nxt_of (rFix_back 11 4 _)]
    obtain ⟨k, m, s⟩ := a
    cases m <;> rfl
def rPlace : Rd Int := nxt (rFix 0 6) fun _ => nxt (rFix 65 6) fun _ => nxt (rSgn 32) fun a => nxt (rFix 11 4) fun _ => ret a
def tPlace (a : Int) : List Int := 0 :: 65 :: (sB a ++ [11])
theorem cod_place : Cod rPlace (isSgn 32) tPlace := by
  constructor
  · intro l a r hl h
    obtain ⟨_, r1, h1, h2⟩ := nxt_ok h
    obtain ⟨_, r2, h3, h4⟩ := nxt_ok h2
    obtain ⟨s, r3, h5, h6⟩ := nxt_ok h4
    obtain ⟨_, r4, h7, h8⟩ := nxt_ok h6
    simp only [ret, Except.ok.injEq, Prod.mk.injEq] at h8
    obtain ⟨rfl, rfl⟩ := h8
    have e1 := rFix_ok h1
    have e3 := rFix_ok h3
    have e7 := rFix_ok h7
    have s1 : r2 <:+ l := by rw [e1, e3]; exact ⟨[0, 65], rfl⟩
    obtain ⟨k1, k2, k3⟩ := (cod_sgn 32 (Or.inl rfl)).ok _ _ _ (hl.suf s1) h5
    have s4 : r4 <:+ r3 := by rw [e7]; exact List.suffix_cons _ _
    refine ⟨k1, s4.trans (k2.trans s1), ?_⟩
    have l3 : l.length = r2.length + 2 := by rw [e1, e3]; rfl
    have l4 : r3.length = r4.length + 1 := by rw [e7]; rfl
    unfold tPlace
    simp only [List.length_cons, List.length_append, List.length_nil]
    omega
  · intro a more ha
    unfold rPlace tPlace
    rw [List.cons_append, nxt_of (rFix_back 0 6 _), List.cons_append, nxt_of (rFix_back 65 6 _), List.append_assoc, nxt_of ((cod_sgn 32 (Or.inl rfl)).back a _ ha), List.singleton_append, nxt_of (rFix_back 11 4 _)]
    rfl
def rEle : Rd EleV := nxt rPlace fun a => nxt (rList 16 rNum) fun f => ret ⟨a, f⟩
def GNs (most : Int) (l : List Int) : Prop := (l.length : Int) ≤ most ∧ ∀ k ∈ l, isNum k
def tNs (l : List Int) : List Int := tList (fun n => uB n.toNat) l
def GEle (e : EleV) : Prop := isSgn 32 e.a ∧ GNs 16 e.f
def tEle (e : EleV) : List Int := tPlace e.a ++ tNs e.f
theorem cod_ns (most : Int) (h : most ≤ 4294967295) : Cod (rList most rNum) (GNs most) tNs := cod_list cod_num most h
theorem cod_ele : Cod rEle GEle tEle := by
  constructor
  · intro l a r hl h
    obtain ⟨s, r1, h1, h2⟩ := nxt_ok h
    obtain ⟨f, r2, h3, h4⟩ := nxt_ok h2
    simp only [ret, Except.ok.injEq, Prod.mk.injEq] at h4
    obtain ⟨rfl, rfl⟩ := h4
    obtain ⟨g1, g2, g3⟩ := cod_place.ok _ _ _ hl h1
    obtain ⟨k1, k2, k3⟩ := (cod_ns 16 (by omega)).ok _ _ _ (hl.suf g2) h3
    refine ⟨⟨g1, k1⟩, k2.trans g2, ?_⟩
    unfold tEle
    rw [List.length_append]
    dsimp only
    omega
  · intro a more ha
    unfold rEle tEle
    rw [List.append_assoc, nxt_of (cod_place.back a.a _ ha.1), nxt_of ((cod_ns 16 (by omega)).back a.f _ ha.2)]
    rfl
def rDat : Rd DatV := nxt rPlace fun a => nxt (rCount 64) fun n => nxt (rPiece n) fun s => ret ⟨a, s⟩
def GDat (d : DatV) : Prop := isSgn 32 d.a ∧ d.s.length ≤ 64 ∧ Bts d.s
def tDat (d : DatV) : List Int := tPlace d.a ++ tName d.s
theorem cod_dat : Cod rDat GDat tDat := by
  constructor
  · intro l a r hl h
    obtain ⟨s, r1, h1, h2⟩ := nxt_ok h
    obtain ⟨n, r2, h3, h4⟩ := nxt_ok h2
    obtain ⟨p, r3, h5, h6⟩ := nxt_ok h4
    simp only [ret, Except.ok.injEq, Prod.mk.injEq] at h6
    obtain ⟨rfl, rfl⟩ := h6
    obtain ⟨g1, g2, g3⟩ := cod_place.ok _ _ _ hl h1
    obtain ⟨k1, k2, k3⟩ := (cod_count 64 (by omega)).ok _ _ _ (hl.suf g2) h3
    obtain ⟨h8, h9⟩ := rPiece_ok k1.1 h5
    have hb := hl.suf (k2.trans g2)
    refine ⟨⟨g1, by dsimp only; omega, fun b hb' => hb b (by rw [h8]; simp [show b ∈ p from hb'])⟩, List.IsSuffix.trans ⟨p, h8.symm⟩ (k2.trans g2), ?_⟩
    unfold tDat tName
    rw [h8, List.length_append] at k3
    rw [List.length_append, List.length_append]
    dsimp only
    rw [show p.length = n.toNat by omega]
    omega
  · intro a more ha
    unfold rDat tDat tName
    rw [List.append_assoc, nxt_of (cod_place.back a.a _ ha.1), List.append_assoc, nxt_of (count_back 64 (by omega) a.s.length (by have := ha.2.1; omega) _), nxt_of (rPiece_back a.s more)]
    rfl
def alone {α : Type} (p : Rd α) (c : List Int) : Except Int α := match p c with
  | .error e => .error e
  | .ok (v, r) => if r = [] then .ok v else .error 4
def rInner {α : Type} (p : Rd α) : Rd α := nxt rNum fun n => nxt (rPiece n) fun s l => match alone p s with
  | .error e => .error e
  | .ok v => .ok (v, l)
theorem alone_ok {α : Type} {p : Rd α} {c : List Int} {v : α} (h : alone p c = .ok v) : p c = .ok (v, []) := by
  unfold alone at h
  cases hp : p c with
  | error e => rw [hp] at h; cases h
  | ok x =>
    obtain ⟨a, r⟩ := x
    rw [hp] at h
    dsimp only at h
    split at h
    · rename_i h0
      simp only [Except.ok.injEq] at h
      rw [h0, h]
    · cases h
theorem rInner_ok {α : Type} {p : Rd α} {l r : List Int} {v : α} (hl : Bts l) (h : rInner p l = .ok (v, r)) : ∃ c, p c = .ok (v, []) ∧ Bts c ∧ r <:+ l ∧ (uB c.length).length + c.length + r.length ≤ l.length := by
  obtain ⟨n, r1, h1, h2⟩ := nxt_ok h
  obtain ⟨s, r2, h3, h4⟩ := nxt_ok h2
  obtain ⟨g1, g2, g3⟩ := cod_num.ok _ _ _ hl h1
  obtain ⟨h8, h9⟩ := rPiece_ok g1.1 h3
  cases ha : alone p s with
  | error e => rw [ha] at h4; cases h4
  | ok x =>
    rw [ha] at h4
    simp only [Except.ok.injEq, Prod.mk.injEq] at h4
    obtain ⟨rfl, rfl⟩ := h4
    have hb := hl.suf g2
    refine ⟨s, alone_ok ha, fun b hb' => hb b (by rw [h8]; simp [hb']), List.IsSuffix.trans ⟨s, h8.symm⟩ g2, ?_⟩
    rw [h8, List.length_append] at g3
    rw [show s.length = n.toNat by omega]
    omega
theorem rInner_back {α : Type} {p : Rd α} {c : List Int} {v : α} (h : p c = .ok (v, [])) (hc : c.length ≤ 4294967295) (more : List Int) : rInner p (uB c.length ++ c ++ more) = .ok (v, more) := by
  unfold rInner
  rw [List.append_assoc, nxt_of (num_back c.length hc _), nxt_of (rPiece_back c more)]
  have : alone p c = .ok v := by
    unfold alone
    rw [h]
    rfl
  rw [this]
def gstep : List (Nat × Int) → Int → List (Nat × Int)
  | [], k => [(1, k)]
  | (n, j) :: g, k => if k = j then (n + 1, j) :: g else (1, k) :: (n, j) :: g
def grpR (l : List Int) : List (Nat × Int) := l.foldl gstep []
def grp (l : List Int) : List (Nat × Int) := (grpR l).reverse
def ungrp (g : List (Nat × Int)) : List Int := g.flatMap fun x => List.replicate x.1 x.2
theorem ungrp_step (g : List (Nat × Int)) (k : Int) : ungrp (gstep g k).reverse = ungrp g.reverse ++ [k] := by
  cases g with
  | nil => simp [gstep, ungrp]
  | cons x g =>
    obtain ⟨n, j⟩ := x
    rw [gstep]
    split
    · rename_i h
      subst h
      simp [ungrp, List.replicate_succ']
    · simp [ungrp]
theorem ungrp_grpR (l : List Int) : ∀ g, ungrp (l.foldl gstep g).reverse = ungrp g.reverse ++ l := by
  induction l with
  | nil => intro g; simp
  | cons k l ih =>
    intro g
    rw [List.foldl_cons, ih, ungrp_step]
    simp
theorem ungrp_grp (l : List Int) : ungrp (grp l) = l := by
  unfold grp grpR
  rw [ungrp_grpR]
  simp [ungrp]
theorem gstep_good (g : List (Nat × Int)) (k : Int) (h : ∀ x ∈ g, 1 ≤ x.1) : ∀ x ∈ gstep g k, 1 ≤ x.1 := by
  cases g with
  | nil => intro x hx; simp [gstep] at hx; subst hx; simp
  | cons y g =>
    obtain ⟨n, j⟩ := y
    rw [gstep]
    split
    · intro x hx
      rw [List.mem_cons] at hx
      rcases hx with rfl | hx
      · simp
      · exact h x (by simp [hx])
    · intro x hx
      rw [List.mem_cons] at hx
      rcases hx with rfl | hx
      · simp
      · exact h x hx
theorem grpR_good (l : List Int) : ∀ g : List (Nat × Int), (∀ x ∈ g, 1 ≤ x.1) → ∀ x ∈ l.foldl gstep g, 1 ≤ x.1 := by
  induction l with
  | nil => intro g h; exact h
  | cons k l ih => intro g h; rw [List.foldl_cons]; exact ih _ (gstep_good g k h)
theorem grp_good (l : List Int) : ∀ x ∈ grp l, 1 ≤ x.1 := by
  intro x hx
  unfold grp at hx
  rw [List.mem_reverse] at hx
  exact grpR_good l [] (by simp) x hx
theorem grp_rep (k : Int) : ∀ (n : Nat) (g : List (Nat × Int)), ((List.replicate n k).foldl gstep g).length ≤ g.length + 1 ∧ (g.length = 0 ∨ (g.head?.map Prod.snd = some k) → ((List.replicate n k).foldl gstep g).length ≤ max g.length (if n = 0 then 0 else 1)) := by
  intro n
  induction n with
  | zero => intro g; simp
  | succ n ih =>
    intro g
    rw [List.replicate_succ, List.foldl_cons]
    have hh : (gstep g k).head?.map Prod.snd = some k := by
      cases g with
      | nil => rfl
      | cons y g =>
        obtain ⟨m, j⟩ := y
        rw [gstep]
        split
        · rename_i h; simp [h]
        · rfl
    have hp : 1 ≤ (gstep g k).length := by
      cases g with
      | nil => simp [gstep]
      | cons y g => obtain ⟨m, j⟩ := y; rw [gstep]; split <;> simp
    have hq : (gstep g k).length ≤ g.length + 1 := by
      cases g with
      | nil => simp [gstep]
      | cons y g => obtain ⟨m, j⟩ := y; rw [gstep]; split <;> simp
    have h2 := (ih (gstep g k)).2 (Or.inr hh)
    have h3 : (if n = 0 then 0 else 1) ≤ 1 := by split <;> omega
    refine ⟨by omega, fun h => ?_⟩
    have h4 : (gstep g k).length ≤ max g.length 1 := by
      rcases h with h | h
      · omega
      · cases g with
        | nil => simp [gstep]
        | cons y g =>
          obtain ⟨m, j⟩ := y
          simp at h
          rw [gstep]
          rw [if_pos h.symm]
          simp
    rw [if_neg (by omega)]
    omega
def rGrps : Nat → List Int → Rd (List Int)
  | 0, acc => fun l => .ok (acc, l)
  | n + 1, acc => nxt rNum fun sz => nxt rKind fun k => nxt (need (decide ((acc.length : Int) + sz ≤ 16)) 2) fun _ => rGrps n (acc ++ List.replicate sz.toNat k)
def tGrp (x : Nat × Int) : List Int := uB x.1 ++ [x.2]
theorem rGrps_ok : ∀ (n : Nat) (acc l L r : List Int), Bts l → acc.length ≤ 16 → (∀ k ∈ acc, isK k = true) → rGrps n acc l = .ok (L, r) → L.length ≤ 16 ∧ (∀ k ∈ L, isK k = true) ∧ (grpR L).length ≤ (grpR acc).length + n ∧ r <:+ l ∧ 2 * n + r.length ≤ l.length
  | 0, acc, l, L, r, _, ha, hk, h => by
    simp only [rGrps, Except.ok.injEq, Prod.mk.injEq] at h
    obtain ⟨rfl, rfl⟩ := h
    exact ⟨ha, hk, by omega, List.suffix_refl _, by omega⟩
  | n + 1, acc, l, L, r, hl, ha, hk, h => by
    rw [rGrps] at h
    obtain ⟨sz, r1, h1, h2⟩ := nxt_ok h
    obtain ⟨k, r2, h3, h4⟩ := nxt_ok h2
    obtain ⟨_, r3, h5, h6⟩ := nxt_ok h4
    obtain ⟨h7, rfl⟩ := need_ok h5
    have h7 := of_decide_eq_true h7
    obtain ⟨g1, g2, g3⟩ := cod_num.ok _ _ _ hl h1
    obtain ⟨k1, k2, k3⟩ := cod_kind.ok _ _ _ (hl.suf g2) h3
    obtain ⟨q1, q2, q3, q4, q5⟩ := rGrps_ok n _ _ _ _ (hl.suf (k2.trans g2)) (by rw [List.length_append, List.length_replicate]; have := g1.1; omega) (fun x hx => by
      rw [List.mem_append] at hx
      rcases hx with hx | hx
      · exact hk x hx
      · rw [List.eq_of_mem_replicate hx]; exact k1) h6
    have hg := (grp_rep k sz.toNat (grpR acc)).1
    have e : grpR (acc ++ List.replicate sz.toNat k) = (List.replicate sz.toNat k).foldl gstep (grpR acc) := by unfold grpR; rw [List.foldl_append]
    rw [e] at q3
    have hu := uB_pos sz.toNat
    simp only [List.length_singleton] at k3
    exact ⟨q1, q2, by omega, q4.trans (k2.trans g2), by omega⟩
theorem rGrps_back : ∀ (g : List (Nat × Int)) (acc more : List Int), (acc ++ ungrp g).length ≤ 16 → (∀ x ∈ g, isK x.2 = true) → rGrps g.length acc (g.flatMap tGrp ++ more) = .ok (acc ++ ungrp g, more)
  | [], acc, more, _, _ => by simp [rGrps, ungrp]
  | x :: g, acc, more, h, hk => by
    have e : ungrp (x :: g) = List.replicate x.1 x.2 ++ ungrp g := by simp [ungrp]
    rw [e, List.length_append, List.length_append, List.length_replicate] at h
    have hk2 := cod_kind.back x.2 (g.flatMap tGrp ++ more) (hk x (by simp))
    rw [List.singleton_append] at hk2
    rw [List.length_cons, rGrps, List.flatMap_cons]
    unfold tGrp at *
    rw [List.append_assoc, List.append_assoc, nxt_of (num_back x.1 (by omega) _), List.singleton_append, nxt_of hk2, nxt_of (need_of (decide_eq_true (by omega)) _ _)]
    have := rGrps_back g (acc ++ List.replicate x.1 x.2) more (by rw [List.length_append, List.length_append, List.length_replicate]; omega) (fun y hy => hk y (by simp [hy]))
    unfold tGrp at this
    rw [Int.toNat_natCast, this, e, List.append_assoc]
theorem ungrp_len (g : List (Nat × Int)) (h : ∀ x ∈ g, 1 ≤ x.1) : g.length ≤ (ungrp g).length := by
  induction g with
  | nil => simp
  | cons x g ih =>
    have := ih fun y hy => h y (by simp [hy])
    have hx := h x (by simp)
    have e : ungrp (x :: g) = List.replicate x.1 x.2 ++ ungrp g := by simp [ungrp]
    rw [e, List.length_append, List.length_replicate, List.length_cons]
    omega
theorem ungrp_size (g : List (Nat × Int)) : ∀ x ∈ g, x.1 ≤ (ungrp g).length := by
  induction g with
  | nil => simp
  | cons y g ih =>
    intro x hx
    have e : ungrp (y :: g) = List.replicate y.1 y.2 ++ ungrp g := by simp [ungrp]
    rw [e, List.length_append, List.length_replicate]
    rw [List.mem_cons] at hx
    rcases hx with rfl | hx
    · omega
    · have := ih x hx; omega
theorem ungrp_mem (g : List (Nat × Int)) (h : ∀ x ∈ g, 1 ≤ x.1) : ∀ x ∈ g, x.2 ∈ ungrp g := by
  intro x hx
  unfold ungrp
  rw [List.mem_flatMap]
  exact ⟨x, hx, by rw [List.mem_replicate]; exact ⟨by have := h x hx; omega, rfl⟩⟩
theorem grps_text (g : List (Nat × Int)) (h : ∀ x ∈ g, x.1 < 128) : (g.flatMap tGrp).length = 2 * g.length := by
  induction g with
  | nil => rfl
  | cons x g ih =>
    rw [List.flatMap_cons, List.length_append, ih fun y hy => h y (by simp [hy])]
    unfold tGrp
    rw [uB_lo (h x (by simp))]
    simp
    omega
def rBody : Rd (List V4) := fun l => if (nRd 200 l []).1 = 0 then .ok ((nRd 200 l []).2.1, (nRd 200 l []).2.2) else .error (nRd 200 l []).1
def GBody (V : List V4) : Prop := V.length ≤ 200 ∧ (∀ v ∈ V, v.rng ∧ 0 ≤ v.op ∧ v.op ≤ 255) ∧ (vRun V [] false).1 = 0 ∧ (vRun V [] false).2.2 = true
theorem cod_body : Cod rBody GBody bodyT := by
  constructor
  · intro l a r hl h
    unfold rBody at h
    split at h
    · rename_i h0
      simp only [Except.ok.injEq, Prod.mk.injEq] at h
      obtain ⟨h1, h2⟩ := h
      have e : nRd 200 l [] = (0, a, r) := Prod.ext h0 (Prod.ext h1 h2)
      obtain ⟨q1, _, q3, q4, q5, q6, q7⟩ := nRd_ok 200 l [] a r hl e
      exact ⟨⟨q1, q3, q4, q5⟩, q6, q7⟩
    · cases h
  · intro a more ha
    have := nRd_back a 200 [] more ha.1 (fun v hv => (ha.2.1 v hv).1) ha.2.2.1 ha.2.2.2
    unfold rBody bodyT
    rw [this]
    rfl
def tLocs (l : List Int) : List Int := uB (grp l).length ++ (grp l).flatMap tGrp
def cCode (c : CodV) : List Int := tLocs c.l ++ bodyT c.b
def rFun : Rd CodV := nxt (rCount 16) fun n => nxt (rGrps n.toNat []) fun l => nxt rBody fun b => ret ⟨l, b⟩
def rCode : Rd CodV := rInner rFun
def GCod (c : CodV) : Prop := GKs 16 c.l ∧ GBody c.b
def tCode (c : CodV) : List Int := uB (cCode c).length ++ cCode c
theorem uB_mono {a b : Nat} (h : a ≤ b) : (uB a).length ≤ (uB b).length := by
  induction b using Nat.strongRecOn generalizing a with
  | ind b ih =>
    by_cases hb : b < 128
    · rw [uB_lo hb, uB_lo (by omega)]; simp
    · by_cases ha : a < 128
      · rw [uB_lo ha]; exact uB_pos b
      · rw [uB_hi hb, uB_hi ha, List.length_cons, List.length_cons]
        have := ih (b / 128) (by omega) (a := a / 128) (Nat.div_le_div_right h)
        omega
theorem rFun_ok {l r : List Int} {c : CodV} (hl : Bts l) (h : rFun l = .ok (c, r)) : GCod c ∧ r <:+ l ∧ (cCode c).length + r.length ≤ l.length := by
  obtain ⟨n, r1, h1, h2⟩ := nxt_ok h
  obtain ⟨ls, r2, h3, h4⟩ := nxt_ok h2
  obtain ⟨b, r3, h5, h6⟩ := nxt_ok h4
  simp only [ret, Except.ok.injEq, Prod.mk.injEq] at h6
  obtain ⟨rfl, rfl⟩ := h6
  obtain ⟨g1, g2, g3⟩ := (cod_count 16 (by omega)).ok _ _ _ hl h1
  obtain ⟨q1, q2, q3, q4, q5⟩ := rGrps_ok _ _ _ _ _ (hl.suf g2) (by simp) (by simp) h3
  obtain ⟨k1, k2, k3⟩ := cod_body.ok _ _ _ (hl.suf (q4.trans g2)) h5
  have e0 : (grpR ([] : List Int)).length = 0 := rfl
  rw [e0] at q3
  have hg := grp_good ls
  have hu : ∀ x ∈ grp ls, x.1 < 128 := fun x hx => by
    have := ungrp_size _ x hx
    rw [ungrp_grp] at this
    omega
  have hlen : (grp ls).length = (grpR ls).length := by unfold grp; rw [List.length_reverse]
  have hm := uB_mono (a := (grp ls).length) (b := n.toNat) (by omega)
  refine ⟨⟨⟨by show ((ls.length : Nat) : Int) ≤ 16; omega, q2⟩, k1⟩, k2.trans (q4.trans g2), ?_⟩
  unfold cCode tLocs
  dsimp only
  rw [List.length_append, List.length_append, grps_text _ hu]
  omega
theorem rFun_back (c : CodV) (more : List Int) (h : GCod c) : rFun (cCode c ++ more) = .ok (c, more) := by
  obtain ⟨⟨h1, h2⟩, h3⟩ := h
  have hlen : (grp c.l).length ≤ 16 := by
    have := ungrp_len _ (grp_good c.l)
    rw [ungrp_grp] at this
    omega
  unfold rFun cCode tLocs
  rw [List.append_assoc, List.append_assoc, nxt_of (count_back 16 (by omega) (grp c.l).length (by omega) _)]
  have hb := rGrps_back (grp c.l) [] (bodyT c.b ++ more) (by rw [List.nil_append, ungrp_grp]; omega) (fun x hx => h2 _ (by have := ungrp_mem _ (grp_good c.l) x hx; rw [ungrp_grp] at this; exact this))
  rw [Int.toNat_natCast, nxt_of hb, nxt_of (cod_body.back c.b more h3), List.nil_append, ungrp_grp]
  rfl
theorem rCode_ok {l r : List Int} {c : CodV} (hl : Bts l) (h : rCode l = .ok (c, r)) : GCod c ∧ r <:+ l ∧ (tCode c).length + r.length ≤ l.length := by
  obtain ⟨s, h1, h2, h3, h4⟩ := rInner_ok hl h
  obtain ⟨q1, _, q3⟩ := rFun_ok h2 h1
  rw [List.length_nil, Nat.add_zero] at q3
  have := uB_mono q3
  refine ⟨q1, h3, ?_⟩
  unfold tCode
  rw [List.length_append]
  omega
end Go.Proofs.YtakpkdckajjooaaGreatDoor
namespace Go.Proofs.YtakpkdckajjooaaGreatDoor
set_option linter.unusedVariables false
open Go.RowKit
theorem cod_code : Cod rCode GCod tCode := by
  constructor
  · intro l a r hl h
    exact rCode_ok hl h
  · intro a more ha
    unfold rCode tCode
    refine rInner_back (by have := rFun_back a [] ha; rw [List.append_nil] at this; exact this) ?_ more
    have hb : (bodyT a.b).length ≤ a.b.length * 1001 := bodyT_len a.b fun v hv => by
      have hc := vRun_chk a.b [] false ha.2.2.2.1 v hv
      obtain ⟨_, hf⟩ := vchk_fit v hc
      have := besT_len _ _ _ _ hf (ha.2.2.1 v hv).1
      unfold V4.text
      rw [List.length_cons]
      omega
    have hg := grp_good a.l
    have hlen := ungrp_len _ hg
    have hu : ∀ x ∈ grp a.l, x.1 < 128 := fun x hx => by
      have := ungrp_size _ x hx
      have h1 := ha.1.1
      rw [ungrp_grp] at this
      omega
    have h1 := ha.1.1
    have h2 := ha.2.1
    rw [ungrp_grp] at hlen
    have hu2 := uB_mono (show (grp a.l).length ≤ 127 by omega)
    rw [uB_lo (n := 127) (by omega)] at hu2
    simp only [List.length_singleton] at hu2
    unfold cCode tLocs
    rw [List.length_append, List.length_append, grps_text _ hu]
    omega
structure DrV where
  types : List SigV
  imports : List NamV
  ftypes : List Int
  table : Int
  pages : Int
  most : Int
  globals : List GloV
  exports : List NamV
  start : Int
  elems : List EleV
  codes : List CodV
  data : List DatV
def DrV.zero : DrV := ⟨[], [], [], 0, 0, 0, [], [], 0, [], [], []⟩
def rTable : Rd Int := nxt (rCount 1) fun n => if n = 0 then ret 0 else nxt (rFix 112 6) fun _ => nxt (rFix 0 6) fun _ => rCount 16
def rMem : Rd (Int × Int) := nxt (rCount 1) fun n => if n = 0 then ret (0, 0) else nxt (rFix 1 6) fun _ => nxt rNum fun p => nxt (rCount 8) fun m => nxt (need (decide (p ≤ m)) 4) fun _ => ret (p, m)
def rStart : Rd Int := nxt rNum fun n => nxt (need (decide (n < 4294967295)) 4) fun _ => ret (n + 1)
def rFill (n : Nat) (d : DrV) : Rd DrV := match n with
  | 1 => nxt (rList 16 rSig) fun x => ret { d with types := x }
  | 2 => nxt (rList 16 rImp) fun x => ret { d with imports := x }
  | 3 => nxt (rList 16 rNum) fun x => ret { d with ftypes := x }
  | 4 => nxt rTable fun x => ret { d with table := x }
  | 5 => nxt rMem fun x => ret { d with pages := x.1, most := x.2 }
  | 6 => nxt (rList 8 rGlo) fun x => ret { d with globals := x }
  | 7 => nxt (rList 8 rExp) fun x => ret { d with exports := x }
  | 8 => nxt rStart fun x => ret { d with start := x }
  | 9 => nxt (rList 4 rEle) fun x => ret { d with elems := x }
  | 10 => nxt (rList 16 rCode) fun x => ret { d with codes := x }
  | 11 => nxt (rList 4 rDat) fun x => ret { d with data := x }
  | _ => ret d
def lst {α : Type} (t : α → List Int) (L : List α) : List Int := if L.isEmpty = true then [] else tList t L
def secC (n : Nat) (d : DrV) : List Int := match n with
  | 1 => lst tSig d.types
  | 2 => lst tImp d.imports
  | 3 => lst (fun n => uB n.toNat) d.ftypes
  | 4 => if d.table = 0 then [] else uB 1 ++ 112 :: 0 :: uB d.table.toNat
  | 5 => if d.most = 0 then [] else uB 1 ++ 1 :: (uB d.pages.toNat ++ uB d.most.toNat)
  | 6 => lst tGlo d.globals
  | 7 => lst tExp d.exports
  | 8 => if d.start = 0 then [] else uB (d.start - 1).toNat
  | 9 => lst tEle d.elems
  | 10 => lst tCode d.codes
  | 11 => lst tDat d.data
  | _ => []
def GL {α : Type} (most : Int) (G : α → Prop) (L : List α) : Prop := (L.length : Int) ≤ most ∧ ∀ a ∈ L, G a
def GSec (n : Nat) (d : DrV) : Prop := match n with
  | 1 => GL 16 GSig d.types
  | 2 => GL 16 GNam d.imports
  | 3 => GL 16 isNum d.ftypes
  | 4 => 0 ≤ d.table ∧ d.table ≤ 16
  | 5 => 0 ≤ d.pages ∧ d.pages ≤ d.most ∧ d.most ≤ 8
  | 6 => GL 8 GGlo d.globals
  | 7 => GL 8 GNam d.exports
  | 8 => 0 ≤ d.start ∧ d.start ≤ 4294967295
  | 9 => GL 4 GEle d.elems
  | 10 => GL 16 GCod d.codes
  | 11 => GL 4 GDat d.data
  | _ => True
def Same (n : Nat) (d e : DrV) : Prop := match n with
  | 1 => d.types = e.types
  | 2 => d.imports = e.imports
  | 3 => d.ftypes = e.ftypes
  | 4 => d.table = e.table
  | 5 => d.pages = e.pages ∧ d.most = e.most
  | 6 => d.globals = e.globals
  | 7 => d.exports = e.exports
  | 8 => d.start = e.start
  | 9 => d.elems = e.elems
  | 10 => d.codes = e.codes
  | 11 => d.data = e.data
  | _ => True
def put (n : Nat) (d m : DrV) : DrV := match n with
  | 1 => { d with types := m.types }
  | 2 => { d with imports := m.imports }
  | 3 => { d with ftypes := m.ftypes }
  | 4 => { d with table := m.table }
  | 5 => { d with pages := m.pages, most := m.most }
  | 6 => { d with globals := m.globals }
  | 7 => { d with exports := m.exports }
  | 8 => { d with start := m.start }
  | 9 => { d with elems := m.elems }
  | 10 => { d with codes := m.codes }
  | 11 => { d with data := m.data }
  | _ => d
theorem eleven {p : Nat → Prop} (h1 : p 1) (h2 : p 2) (h3 : p 3) (h4 : p 4) (h5 : p 5) (h6 : p 6) (h7 : p 7) (h8 : p 8) (h9 : p 9) (h10 : p 10) (h11 : p 11) (n : Nat) (a : 1 ≤ n) (b : n ≤ 11) : p n := by
  have : n = 1 ∨ n = 2 ∨ n = 3 ∨ n = 4 ∨ n = 5 ∨ n = 6 ∨ n = 7 ∨ n = 8 ∨ n = 9 ∨ n = 10 ∨ n = 11 := by omega
  rcases this with rfl | rfl | rfl | rfl | rfl | rfl | rfl | rfl | rfl | rfl | rfl <;> assumption
theorem Same.refl (n : Nat) (d : DrV) : Same n d d := by
  unfold Same
  split <;> simp
theorem Same.symm {n : Nat} {d e : DrV} (h : Same n d e) : Same n e d := by
  unfold Same at h ⊢
  split at h <;> simp_all
theorem Same.trans {n : Nat} {d e f : DrV} (h : Same n d e) (k : Same n e f) : Same n d f := by
  unfold Same at h k ⊢
  split at h <;> simp_all
theorem secC_same {n : Nat} {d e : DrV} (h : Same n d e) : secC n d = secC n e := by
  unfold Same at h
  unfold secC
  split at h <;> simp_all
theorem GSec_same {n : Nat} {d e : DrV} (h : Same n d e) (g : GSec n d) : GSec n e := by
  unfold Same at h
  unfold GSec at g ⊢
  split at h <;> simp_all
theorem zero_C (n : Nat) : secC n DrV.zero = [] := by
  unfold secC
  split <;> rfl
theorem zero_G (n : Nat) : GSec n DrV.zero := by
  unfold GSec
  split <;> simp [DrV.zero, GL]
theorem list_fill {α : Type} {p : Rd α} {G : α → Prop} {t : α → List Int} (C : Cod p G t) (most : Int) (hm : most ≤ 4294967295) (f : List α → DrV) {c r : List Int} {d1 : DrV} (hc : Bts c) (h : nxt (rList most p) (fun x => ret (f x)) c = .ok (d1, r)) : ∃ x, d1 = f x ∧ GL most G x ∧ (lst t x).length + r.length ≤ c.length := by
  obtain ⟨x, r1, h1, h2⟩ := nxt_ok h
  simp only [ret, Except.ok.injEq, Prod.mk.injEq] at h2
  obtain ⟨rfl, rfl⟩ := h2
  obtain ⟨g1, _, g3⟩ := (cod_list C most hm).ok _ _ _ hc h1
  refine ⟨x, rfl, g1, ?_⟩
  unfold lst
  split
  · simp; omega
  · exact g3
theorem list_put {α : Type} {p : Rd α} {G : α → Prop} {t : α → List Int} (C : Cod p G t) (most : Int) (hm : most ≤ 4294967295) (f : List α → DrV) (L : List α) (hL : GL most G L) (h : lst t L ≠ []) : nxt (rList most p) (fun x => ret (f x)) (lst t L) = .ok (f L, []) := by
  have e : lst t L = tList t L ++ [] := by
    unfold lst at h ⊢
    split
    · rename_i h0; rw [if_pos h0] at h; exact absurd rfl h
    · simp
  rw [e, nxt_of ((cod_list C most hm).back L [] hL)]
  rfl
theorem lst_nil {α : Type} {t : α → List Int} {L : List α} (h : lst t L = []) : L = [] := by
  unfold lst at h
  split at h
  · rename_i h0; exact List.isEmpty_iff.1 h0
  · exact absurd h (tList_pos t L)
theorem uB_ne (n : Nat) : uB n ≠ [] := by
  intro h
  have := uB_pos n
  rw [h] at this
  simp at this
theorem put_none {n : Nat} {d m : DrV} (h1 : 1 ≤ n) (h2 : n ≤ 11) (hc : secC n m = []) (hG : GSec n m) (hd : Same n d DrV.zero) : put n d m = d := by
  revert hc hG hd
  refine eleven (p := fun n => secC n m = [] → GSec n m → Same n d DrV.zero → put n d m = d) ?_ ?_ ?_ ?_ ?_ ?_ ?_ ?_ ?_ ?_ ?_ n h1 h2
  case refine_4 =>
    intro hc hG hd
    have : m.table = 0 := by
      unfold secC at hc
      by_cases h : m.table = 0
      · exact h
      · rw [if_neg h] at hc
        simp at hc
    have hd : d.table = 0 := hd
    obtain ⟨⟩ := d
    simp only [put] at hd ⊢
    rw [this, hd]
  case refine_5 =>
    intro hc hG hd
    have h0 : m.most = 0 := by
      unfold secC at hc
      by_cases h : m.most = 0
      · exact h
      · rw [if_neg h] at hc
        simp at hc
    have hG : 0 ≤ m.pages ∧ m.pages ≤ m.most ∧ m.most ≤ 8 := hG
    have h1 : m.pages = 0 := by omega
    have hd : d.pages = 0 ∧ d.most = 0 := hd
    obtain ⟨⟩ := d
    simp only [put] at hd ⊢
    rw [h0, h1, hd.1, hd.2]
  case refine_8 =>
    intro hc hG hd
    have : m.start = 0 := by
      unfold secC at hc
      by_cases h : m.start = 0
      · exact h
      · rw [if_neg h] at hc
        exact absurd hc (uB_ne _)
    have hd : d.start = 0 := hd
    obtain ⟨⟩ := d
    simp only [put] at hd ⊢
    rw [this, hd]
  all_goals
    intro hc _ hd
    have e := lst_nil hc
    obtain ⟨⟩ := d
    simp only [put, Same, DrV.zero] at hd ⊢
    rw [e, hd]
theorem one_text : uB 1 = [1] := uB_lo (by omega)
theorem rCount1 (more : List Int) : rCount 1 (uB 1 ++ more) = .ok (1, more) := (cod_count 1 (by omega)).back 1 more ⟨by omega, by omega⟩
theorem fill_back {n : Nat} {d m : DrV} (h1 : 1 ≤ n) (h2 : n ≤ 11) (hG : GSec n m) (hc : secC n m ≠ []) : rFill n d (secC n m) = .ok (put n d m, []) := by
  revert hG hc
  refine eleven (p := fun n => GSec n m → secC n m ≠ [] → rFill n d (secC n m) = .ok (put n d m, [])) ?_ ?_ ?_ ?_ ?_ ?_ ?_ ?_ ?_ ?_ ?_ n h1 h2
  · exact fun hG hc => list_put cod_sig 16 (by omega) _ _ hG hc
  · exact fun hG hc => list_put cod_imp 16 (by omega) _ _ hG hc
  · exact fun hG hc => list_put cod_num 16 (by omega) _ _ hG hc
  · intro hG hc
    have hG : 0 ≤ m.table ∧ m.table ≤ 16 := hG
    simp only [secC, rFill] at hc ⊢
    by_cases h : m.table = 0
    · rw [if_pos h] at hc; exact absurd rfl hc
    · rw [if_neg h]
      have e : rTable (uB 1 ++ 112 :: 0 :: uB m.table.toNat) = .ok (m.table, []) := by
        unfold rTable
        rw [nxt_of (rCount1 _), if_neg (by omega), nxt_of (rFix_back 112 6 _), nxt_of (rFix_back 0 6 _)]
        have := (cod_count 16 (by omega)).back m.table [] hG
        rw [List.append_nil] at this
        exact this
      rw [nxt_of e]
      rfl
  · intro hG hc
    have hG : 0 ≤ m.pages ∧ m.pages ≤ m.most ∧ m.most ≤ 8 := hG
    simp only [secC, rFill] at hc ⊢
    by_cases h : m.most = 0
    · rw [if_pos h] at hc; exact absurd rfl hc
    · rw [if_neg h]
      have e : rMem (uB 1 ++ 1 :: (uB m.pages.toNat ++ uB m.most.toNat)) = .ok ((m.pages, m.most), []) := by
        unfold rMem
        rw [nxt_of (rCount1 _), if_neg (by omega), nxt_of (rFix_back 1 6 _), nxt_of (cod_num.back m.pages _ ⟨by omega, by omega⟩)]
        have := (cod_count 8 (by omega)).back m.most [] ⟨by omega, by omega⟩
        rw [List.append_nil] at this
        rw [nxt_of this, nxt_of (need_of (decide_eq_true hG.2.1) _ _)]
        rfl
      rw [nxt_of e]
      rfl
  · exact fun hG hc => list_put cod_glo 8 (by omega) _ _ hG hc
  · exact fun hG hc => list_put cod_exp 8 (by omega) _ _ hG hc
  · intro hG hc
    have hG : 0 ≤ m.start ∧ m.start ≤ 4294967295 := hG
    simp only [secC, rFill] at hc ⊢
    by_cases h : m.start = 0
    · rw [if_pos h] at hc; exact absurd rfl hc
    · rw [if_neg h]
      have e : rStart (uB (m.start - 1).toNat) = .ok (m.start, []) := by
        unfold rStart
        have := cod_num.back (m.start - 1) [] ⟨by omega, by omega⟩
        rw [List.append_nil] at this
        rw [nxt_of this, nxt_of (need_of (decide_eq_true (by omega)) _ _)]
        unfold ret
        rw [show m.start - 1 + 1 = m.start by omega]
      rw [nxt_of e]
      rfl
  · exact fun hG hc => list_put cod_ele 4 (by omega) _ _ hG hc
  · exact fun hG hc => list_put cod_code 16 (by omega) _ _ hG hc
  · exact fun hG hc => list_put cod_dat 4 (by omega) _ _ hG hc
theorem other {n : Nat} {d d1 : DrV} (hb : ∀ j, 1 ≤ j → j ≤ 11 → j ≠ n → Same j d d1) : ∀ j, j ≠ n → Same j d d1 := by
  intro j hj
  by_cases h : 1 ≤ j ∧ j ≤ 11
  · exact hb j h.1 h.2 hj
  · unfold Same
    split <;> first | omega | trivial
theorem fill_ok {n : Nat} {d d1 : DrV} {c : List Int} (h1 : 1 ≤ n) (h2 : n ≤ 11) (hc : Bts c) (h : rFill n d c = .ok (d1, [])) : GSec n d1 ∧ (secC n d1).length ≤ c.length ∧ ∀ j, j ≠ n → Same j d d1 := by
  have key : GSec n d1 ∧ (secC n d1).length ≤ c.length ∧ ∀ j, 1 ≤ j → j ≤ 11 → j ≠ n → Same j d d1 := by
    revert h
    refine eleven (p := fun n => rFill n d c = .ok (d1, []) → GSec n d1 ∧ (secC n d1).length ≤ c.length ∧ ∀ j, 1 ≤ j → j ≤ 11 → j ≠ n → Same j d d1) ?_ ?_ ?_ ?_ ?_ ?_ ?_ ?_ ?_ ?_ ?_ n h1 h2
    case refine_4 =>
      intro h
      obtain ⟨x, r1, h1, h2⟩ := nxt_ok h
      simp only [ret, Except.ok.injEq, Prod.mk.injEq] at h2
      obtain ⟨rfl, rfl⟩ := h2
      obtain ⟨k, r2, h3, h4⟩ := nxt_ok h1
      obtain ⟨g1, g2, g3⟩ := (cod_count 1 (by omega)).ok _ _ _ hc h3
      refine ⟨?_, ?_, fun j a b e => eleven (p := fun j => j ≠ 4 → Same j d { d with table := x }) (fun _ => rfl) (fun _ => rfl) (fun _ => rfl) (fun e => absurd rfl e) (fun _ => ⟨rfl, rfl⟩) (fun _ => rfl) (fun _ => rfl) (fun _ => rfl) (fun _ => rfl) (fun _ => rfl) (fun _ => rfl) j a b e⟩
      all_goals
        split at h4
        · simp only [ret, Except.ok.injEq, Prod.mk.injEq] at h4
          obtain ⟨rfl, rfl⟩ := h4
          first | exact ⟨by dsimp only; omega, by dsimp only; omega⟩ | simp [secC]
        · rename_i hk
          obtain ⟨_, r3, h5, h6⟩ := nxt_ok h4
          obtain ⟨_, r4, h7, h8⟩ := nxt_ok h6
          have e5 := rFix_ok h5
          have e7 := rFix_ok h7
          have s : r4 <:+ c := List.IsSuffix.trans (by rw [e5, e7]; exact ⟨[112, 0], rfl⟩) g2
          obtain ⟨k1, k2, k3⟩ := (cod_count 16 (by omega)).ok _ _ _ (hc.suf s) h8
          first
          | exact k1
          | (have l1 : r2.length = r4.length + 2 := by rw [e5, e7]; rfl
             have := uB_pos k.toNat
             simp only [secC]
             split
             · simp
             · rw [one_text]
               simp only [List.length_append, List.length_cons, List.length_nil] at k3 ⊢
               omega)
    case refine_5 =>
      intro h
      obtain ⟨x, r1, h1, h2⟩ := nxt_ok h
      simp only [ret, Except.ok.injEq, Prod.mk.injEq] at h2
      obtain ⟨rfl, rfl⟩ := h2
      obtain ⟨k, r2, h3, h4⟩ := nxt_ok h1
      obtain ⟨g1, g2, g3⟩ := (cod_count 1 (by omega)).ok _ _ _ hc h3
      refine ⟨?_, ?_, fun j a b e => eleven (p := fun j => j ≠ 5 → Same j d { d with pages := x.1, most := x.2 }) (fun _ => rfl) (fun _ => rfl) (fun _ => rfl) (fun _ => rfl) (fun e => absurd rfl e) (fun _ => rfl) (fun _ => rfl) (fun _ => rfl) (fun _ => rfl) (fun _ => rfl) (fun _ => rfl) j a b e⟩
      all_goals
        split at h4
        · simp only [ret, Except.ok.injEq, Prod.mk.injEq] at h4
          obtain ⟨rfl, rfl⟩ := h4
          first | exact ⟨by dsimp only; omega, by dsimp only; omega, by dsimp only; omega⟩ | simp [secC]
        · rename_i hk
          obtain ⟨_, r3, h5, h6⟩ := nxt_ok h4
          obtain ⟨p, r4, h7, h8⟩ := nxt_ok h6
          obtain ⟨m, r5, h9, h10⟩ := nxt_ok h8
          obtain ⟨_, r6, h11, h12⟩ := nxt_ok h10
          obtain ⟨h13, rfl⟩ := need_ok h11
          have h13 := of_decide_eq_true h13
          simp only [ret, Except.ok.injEq, Prod.mk.injEq] at h12
          obtain ⟨rfl, rfl⟩ := h12
          have e5 := rFix_ok h5
          have s : r3 <:+ c := List.IsSuffix.trans (by rw [e5]; exact List.suffix_cons _ _) g2
          obtain ⟨k1, k2, k3⟩ := cod_num.ok _ _ _ (hc.suf s) h7
          obtain ⟨j1, j2, j3⟩ := (cod_count 8 (by omega)).ok _ _ _ (hc.suf (k2.trans s)) h9
          first
          | exact ⟨k1.1, h13, j1.2⟩
          | (have l1 : r2.length = r3.length + 1 := by rw [e5]; rfl
             have := uB_pos k.toNat
             simp only [secC]
             split
             · simp
             · rw [one_text]
               simp only [List.length_append, List.length_cons, List.length_nil] at j3 ⊢
               omega)
    case refine_8 =>
      intro h
      obtain ⟨x, r1, h1, h2⟩ := nxt_ok h
      simp only [ret, Except.ok.injEq, Prod.mk.injEq] at h2
      obtain ⟨rfl, rfl⟩ := h2
      obtain ⟨k, r2, h3, h4⟩ := nxt_ok h1
      obtain ⟨_, r3, h5, h6⟩ := nxt_ok h4
      obtain ⟨h7, rfl⟩ := need_ok h5
      have h7 := of_decide_eq_true h7
      simp only [ret, Except.ok.injEq, Prod.mk.injEq] at h6
      obtain ⟨rfl, rfl⟩ := h6
      obtain ⟨g1, g2, g3⟩ := cod_num.ok _ _ _ hc h3
      have g1' := g1.1
      refine ⟨⟨by dsimp only; omega, by dsimp only; omega⟩, ?_, fun j a b e => eleven (p := fun j => j ≠ 8 → Same j d { d with start := k + 1 }) (fun _ => rfl) (fun _ => rfl) (fun _ => rfl) (fun _ => rfl) (fun _ => ⟨rfl, rfl⟩) (fun _ => rfl) (fun _ => rfl) (fun e => absurd rfl e) (fun _ => rfl) (fun _ => rfl) (fun _ => rfl) j a b e⟩
      simp only [secC]
      split
      · simp
      · rw [show k + 1 - 1 = k by omega]
        omega
    case refine_1 => (intro h; obtain ⟨x, rfl, g, e⟩ := list_fill cod_sig 16 (by omega) _ hc h; exact ⟨g, by rw [List.length_nil, Nat.add_zero] at e; exact e, fun j a b e => eleven (p := fun j => j ≠ 1 → Same j d { d with types := x }) (fun e => absurd rfl e) (fun _ => rfl) (fun _ => rfl) (fun _ => rfl) (fun _ => ⟨rfl, rfl⟩) (fun _ => rfl) (fun _ => rfl) (fun _ => rfl) (fun _ => rfl) (fun _ => rfl) (fun _ => rfl) j a b e⟩)
    case refine_2 => (intro h; obtain ⟨x, rfl, g, e⟩ := list_fill cod_imp 16 (by omega) _ hc h; exact ⟨g, by rw [List.length_nil, Nat.add_zero] at e; exact e, fun j a b e => eleven (p := fun j => j ≠ 2 → Same j d { d with imports := x }) (fun _ => rfl) (fun e => absurd rfl e) (fun _ => rfl) (fun _ => rfl) (fun _ => ⟨rfl, rfl⟩) (fun _ => rfl) (fun _ => rfl) (fun _ => rfl) (fun _ => rfl) (fun _ => rfl) (fun _ => rfl) j a b e⟩)
    case refine_3 => (intro h; obtain ⟨x, rfl, g, e⟩ := list_fill cod_num 16 (by omega) _ hc h; exact ⟨g, by rw [List.length_nil, Nat.add_zero] at e; exact e, fun j a b e => eleven (p := fun j => j ≠ 3 → Same j d { d with ftypes := x }) (fun _ => rfl) (fun _ => rfl) (fun e => absurd rfl e) (fun _ => rfl) (fun _ => ⟨rfl, rfl⟩) (fun _ => rfl) (fun _ => rfl) (fun _ => rfl) (fun _ => rfl) (fun _ => rfl) (fun _ => rfl) j a b e⟩)
    case refine_6 => (intro h; obtain ⟨x, rfl, g, e⟩ := list_fill cod_glo 8 (by omega) _ hc h; exact ⟨g, by rw [List.length_nil, Nat.add_zero] at e; exact e, fun j a b e => eleven (p := fun j => j ≠ 6 → Same j d { d with globals := x }) (fun _ => rfl) (fun _ => rfl) (fun _ => rfl) (fun _ => rfl) (fun _ => ⟨rfl, rfl⟩) (fun e => absurd rfl e) (fun _ => rfl) (fun _ => rfl) (fun _ => rfl) (fun _ => rfl) (fun _ => rfl) j a b e⟩)
    case refine_7 => (intro h; obtain ⟨x, rfl, g, e⟩ := list_fill cod_exp 8 (by omega) _ hc h; exact ⟨g, by rw [List.length_nil, Nat.add_zero] at e; exact e, fun j a b e => eleven (p := fun j => j ≠ 7 → Same j d { d with exports := x }) (fun _ => rfl) (fun _ => rfl) (fun _ => rfl) (fun _ => rfl) (fun _ => ⟨rfl, rfl⟩) (fun _ => rfl) (fun e => absurd rfl e) (fun _ => rfl) (fun _ => rfl) (fun _ => rfl) (fun _ => rfl) j a b e⟩)
    case refine_9 => (intro h; obtain ⟨x, rfl, g, e⟩ := list_fill cod_ele 4 (by omega) _ hc h; exact ⟨g, by rw [List.length_nil, Nat.add_zero] at e; exact e, fun j a b e => eleven (p := fun j => j ≠ 9 → Same j d { d with elems := x }) (fun _ => rfl) (fun _ => rfl) (fun _ => rfl) (fun _ => rfl) (fun _ => ⟨rfl, rfl⟩) (fun _ => rfl) (fun _ => rfl) (fun _ => rfl) (fun e => absurd rfl e) (fun _ => rfl) (fun _ => rfl) j a b e⟩)
    case refine_10 => (intro h; obtain ⟨x, rfl, g, e⟩ := list_fill cod_code 16 (by omega) _ hc h; exact ⟨g, by rw [List.length_nil, Nat.add_zero] at e; exact e, fun j a b e => eleven (p := fun j => j ≠ 10 → Same j d { d with codes := x }) (fun _ => rfl) (fun _ => rfl) (fun _ => rfl) (fun _ => rfl) (fun _ => ⟨rfl, rfl⟩) (fun _ => rfl) (fun _ => rfl) (fun _ => rfl) (fun _ => rfl) (fun e => absurd rfl e) (fun _ => rfl) j a b e⟩)
    case refine_11 => (intro h; obtain ⟨x, rfl, g, e⟩ := list_fill cod_dat 4 (by omega) _ hc h; exact ⟨g, by rw [List.length_nil, Nat.add_zero] at e; exact e, fun j a b e => eleven (p := fun j => j ≠ 11 → Same j d { d with data := x }) (fun _ => rfl) (fun _ => rfl) (fun _ => rfl) (fun _ => rfl) (fun _ => ⟨rfl, rfl⟩) (fun _ => rfl) (fun _ => rfl) (fun _ => rfl) (fun _ => rfl) (fun _ => rfl) (fun e => absurd rfl e) j a b e⟩)
  exact ⟨key.1, key.2.1, other key.2.2⟩
def secT (n : Nat) (d : DrV) : List Int := if (secC n d).isEmpty = true then [] else (n : Int) :: (uB (secC n d).length ++ secC n d)
def tailT (m : DrV) : Nat → List Int
  | 0 => []
  | k + 1 => secT (11 - k) m ++ tailT m k
def upd (m : DrV) : Nat → DrV → DrV
  | 0, d => d
  | k + 1, d => upd m k (put (11 - k) d m)
def rSecs (last : Nat) (d : DrV) (l : List Int) : Except Int DrV := match l with
  | [] => .ok d
  | b :: l => if _h1 : 1 ≤ b ∧ b ≤ 11 then
      if _h2 : (last : Int) < b then (match rInner (rFill b.toNat d) l with
        | .error e => .error e
        | .ok (d1, r) => rSecs b.toNat d1 r)
      else .error 4
    else .error 6
  termination_by 12 - last
  decreasing_by omega
theorem secT_nil {n : Nat} {d : DrV} (h : secC n d = []) : secT n d = [] := by
  unfold secT
  rw [h]
  rfl
theorem secT_some {n : Nat} {d : DrV} (h : secC n d ≠ []) : secT n d = (n : Int) :: (uB (secC n d).length ++ secC n d) := by
  unfold secT
  rw [if_neg (by rw [List.isEmpty_iff]; exact h)]
theorem dfl_put {n j : Nat} {d m : DrV} (h : j ≠ n) (hd : Same j d DrV.zero) : Same j (put n d m) DrV.zero := by
  unfold Same at hd ⊢
  unfold put
  split at hd <;> first | trivial | (split <;> simp_all)
theorem secs_back (m : DrV) (hG : ∀ n, 1 ≤ n → n ≤ 11 → GSec n m) : ∀ (k : Nat), k ≤ 11 → ∀ (last : Nat) (d : DrV), last + k ≤ 11 → (∀ n, 11 - k < n → n ≤ 11 → Same n d DrV.zero) → (tailT m k).length ≤ 4294967295 → rSecs last d (tailT m k) = .ok (upd m k d)
  | 0, _, last, d, _, _, _ => by rw [tailT, rSecs]; rfl
  | k + 1, hk, last, d, hl, hd, hs => by
    rw [tailT] at hs ⊢
    rw [upd]
    have hn1 : 1 ≤ 11 - k := by omega
    have hn2 : 11 - k ≤ 11 := by omega
    rw [List.length_append] at hs
    by_cases hc : secC (11 - k) m = []
    · rw [secT_nil hc, List.nil_append, put_none hn1 hn2 hc (hG _ hn1 hn2) (hd _ (by omega) (by omega))]
      exact secs_back m hG k (by omega) last d (by omega) (fun n a b => hd n (by omega) b) (by omega)
    · rw [secT_some hc] at hs ⊢
      rw [List.cons_append, rSecs]
      rw [dif_pos (by omega), dif_pos (by omega)]
      simp only [List.length_cons, List.length_append] at hs
      rw [Int.toNat_natCast, rInner_back (fill_back hn1 hn2 (hG _ hn1 hn2) hc) (by omega)]
      dsimp only
      exact secs_back m hG k (by omega) (11 - k) _ (by omega) (fun n a b => dfl_put (by omega) (hd n (by omega) b)) (by omega)
theorem tailT_skip (d : DrV) (k : Nat) : ∀ (j : Nat), k + j ≤ 11 → (∀ n, 11 - (k + j) < n → n ≤ 11 - k → secC n d = []) → tailT d (k + j) = tailT d k
  | 0, _, _ => rfl
  | j + 1, h, hn => by
    rw [show k + (j + 1) = (k + j) + 1 by omega, tailT, secT_nil (hn _ (by omega) (by omega)), List.nil_append]
    exact tailT_skip d k j (by omega) fun n a b => hn n (by omega) b
theorem secs_ok : ∀ (k last : Nat) (d : DrV) (l : List Int) (d' : DrV), last + k = 11 → Bts l → (∀ n, last < n → n ≤ 11 → Same n d DrV.zero) → rSecs last d l = .ok d' → (∀ n, n ≤ last → Same n d d') ∧ (∀ n, last < n → n ≤ 11 → GSec n d') ∧ (tailT d' k).length ≤ l.length := by
  intro k
  induction k using Nat.strongRecOn with
  | ind k ih =>
    intro last d l d' hk hl hd h
    cases l with
    | nil =>
      rw [rSecs] at h
      simp only [Except.ok.injEq] at h
      subst h
      refine ⟨fun n _ => Same.refl n d, fun n a b => GSec_same (hd n a b).symm (zero_G n), ?_⟩
      have := tailT_skip d 0 k (by omega) fun n a b => by rw [secC_same (hd n (by omega) (by omega))]; exact zero_C n
      rw [Nat.zero_add] at this
      rw [this]
      simp [tailT]
    | cons b l =>
      rw [rSecs] at h
      by_cases h1 : 1 ≤ b ∧ b ≤ 11
      · rw [dif_pos h1] at h
        by_cases h2 : (last : Int) < b
        · rw [dif_pos h2] at h
          cases hi : rInner (rFill b.toNat d) l with
          | error e => rw [hi] at h; cases h
          | ok x =>
            obtain ⟨d1, r⟩ := x
            rw [hi] at h
            dsimp only at h
            have hl1 : Bts l := fun x hx => hl x (by simp [hx])
            obtain ⟨c, c1, c2, c3, c4⟩ := rInner_ok hl1 hi
            obtain ⟨f1, f2, f3⟩ := fill_ok (by omega) (by omega) c2 c1
            obtain ⟨i1, i2, i3⟩ := ih (11 - b.toNat) (by omega) b.toNat d1 r d' (by omega) (hl1.suf c3) (fun n a e => (f3 n (by omega)).symm.trans (hd n (by omega) e)) h
            have hb := i1 b.toNat (Nat.le_refl _)
            have hbetween : ∀ n, last < n → n < b.toNat → Same n d' DrV.zero := fun n a e => ((f3 n (by omega)).trans (i1 n (by omega))).symm.trans (hd n a (by omega))
            refine ⟨fun n a => (f3 n (by omega)).trans (i1 n (by omega)), fun n a e => ?_, ?_⟩
            · by_cases hn : n < b.toNat
              · exact GSec_same (hbetween n a hn).symm (zero_G n)
              · by_cases he : n = b.toNat
                · rw [he]; exact GSec_same hb f1
                · exact i2 n (by omega) e
            · have hsk := tailT_skip d' (11 - b.toNat + 1) (k - (11 - b.toNat + 1)) (by omega) fun n a e => by rw [secC_same (hbetween n (by omega) (by omega))]; exact zero_C n
              rw [show 11 - b.toNat + 1 + (k - (11 - b.toNat + 1)) = k by omega, tailT, show 11 - (11 - b.toNat) = b.toNat by omega] at hsk
              rw [hsk, List.length_append, List.length_cons]
              have hm := uB_mono f2
              rw [secC_same hb] at f2 hm
              have : (secT b.toNat d').length ≤ 1 + (uB (secC b.toNat d').length).length + (secC b.toNat d').length := by
                unfold secT
                split
                · simp
                · simp only [List.length_cons, List.length_append]; omega
              omega
        · rw [dif_neg h2] at h; cases h
      · rw [dif_neg h1] at h; cases h
def head8 : List Int := [0, 97, 115, 109, 1, 0, 0, 0]
def rFixes : List Int → Rd Unit
  | [] => ret ()
  | b :: r => nxt (rFix b 4) fun _ => rFixes r
def rMod (l : List Int) : Except Int DrV := if 4096 < l.length then .error 2 else match rFixes head8 l with
  | .error e => .error e
  | .ok (_, r) => match rSecs 0 DrV.zero r with
    | .error e => .error e
    | .ok d => if d.ftypes.length = d.codes.length then .ok d else .error 4
def tMod (d : DrV) : List Int := head8 ++ tailT d 11
def GMod (d : DrV) : Prop := (∀ n, 1 ≤ n → n ≤ 11 → GSec n d) ∧ d.ftypes.length = d.codes.length
theorem rFixes_back : ∀ (h more : List Int), rFixes h (h ++ more) = .ok ((), more)
  | [], more => rfl
  | b :: h, more => by rw [rFixes, List.cons_append, nxt_of (rFix_back b 4 _), rFixes_back h more]
theorem rFixes_ok : ∀ (h l r : List Int) (u : Unit), rFixes h l = .ok (u, r) → l = h ++ r
  | [], l, r, u, e => by simp only [rFixes, ret, Except.ok.injEq, Prod.mk.injEq] at e; rw [e.2]; rfl
  | b :: h, l, r, u, e => by
    rw [rFixes] at e
    obtain ⟨_, r1, h1, h2⟩ := nxt_ok e
    rw [rFix_ok h1, rFixes_ok h _ _ _ h2]
    rfl
theorem mod_back (d : DrV) (hG : GMod d) (hs : (tMod d).length ≤ 4096) : rMod (tMod d) = .ok d := by
  unfold rMod
  rw [if_neg (by omega)]
  unfold tMod at hs ⊢
  rw [List.length_append] at hs
  rw [rFixes_back]
  dsimp only
  rw [secs_back d hG.1 11 (by omega) 0 DrV.zero (by omega) (fun n _ _ => Same.refl n _) (by omega)]
  dsimp only
  have : upd d 11 DrV.zero = d := by
    obtain ⟨a1, a2, a3, a4, a5, a6, a7, a8, a9, a10, a11, a12⟩ := d
    simp only [upd, put, DrV.zero]
  rw [this, if_pos hG.2]
theorem mod_ok (l : List Int) (d : DrV) (hl : Bts l) (h : rMod l = .ok d) : GMod d ∧ (tMod d).length ≤ l.length ∧ l.length ≤ 4096 := by
  unfold rMod at h
  split at h
  · cases h
  · rename_i h0
    cases hf : rFixes head8 l with
    | error e => rw [hf] at h; cases h
    | ok x =>
      obtain ⟨u, r⟩ := x
      rw [hf] at h
      dsimp only at h
      have e := rFixes_ok _ _ _ _ hf
      cases hr : rSecs 0 DrV.zero r with
      | error e => rw [hr] at h; cases h
      | ok d1 =>
        rw [hr] at h
        dsimp only at h
        split at h
        · rename_i h2
          simp only [Except.ok.injEq] at h
          subst h
          obtain ⟨_, q2, q3⟩ := secs_ok 11 0 DrV.zero r d1 (by omega) (fun b hb => hl b (by rw [e]; simp [hb])) (fun n _ _ => Same.refl n _) hr
          refine ⟨⟨fun n a b => q2 n (by omega) b, h2⟩, ?_, by omega⟩
          unfold tMod
          rw [e, List.length_append, List.length_append]
          omega
        · cases h
end Go.Proofs.YtakpkdckajjooaaGreatDoor
namespace Go.Proofs.YtakpkdckajjooaaGreatDoor
set_option linter.unusedVariables false
open Go.RowKit
def NZ {α : Type} (p : Rd α) : Prop := ∀ l e, p l = .error e → e ≠ 0
theorem nz_nxt {α β : Type} {x : Rd α} {f : α → Rd β} (h : NZ x) (hf : ∀ a, NZ (f a)) : NZ (nxt x f) := by
  intro l e he
  unfold nxt at he
  cases hx : x l with
  | error e' => rw [hx] at he; simp only [Except.error.injEq] at he; subst he; exact h l _ hx
  | ok p => obtain ⟨a, r⟩ := p; rw [hx] at he; exact hf a r e he
theorem nz_ret {α : Type} (a : α) : NZ (ret a) := fun l e h => by cases h
theorem nz_need (b : Bool) (e : Int) (h0 : e ≠ 0) : NZ (need b e) := by
  intro l e' h
  unfold need at h
  split at h
  · cases h
  · simp only [Except.error.injEq] at h; subst h; exact h0
theorem nz_next : NZ rNext := by
  intro l e h
  cases l with
  | nil => simp only [rNext, Except.error.injEq] at h; subst h; decide
  | cons b r => cases h
theorem nz_fix (w e : Int) (h : e ≠ 0) : NZ (rFix w e) := nz_nxt nz_next fun _ => nz_need _ _ h
theorem nz_num : NZ rNum := by
  intro l e h
  unfold rNum at h
  split at h
  · cases h
  · rename_i h0
    simp only [Except.error.injEq] at h
    subst h
    exact h0
theorem nz_sgn (B : Int) : NZ (rSgn B) := by
  intro l e h
  unfold rSgn at h
  split at h
  · cases h
  · rename_i h0
    simp only [Except.error.injEq] at h
    subst h
    exact h0
theorem nz_piece (n : Int) : NZ (rPiece n) := by
  intro l e h
  unfold rPiece at h
  split at h
  · cases h
  · simp only [Except.error.injEq] at h; subst h; decide
theorem nz_count (m : Int) : NZ (rCount m) := nz_nxt nz_num fun _ => nz_nxt (nz_need _ _ (by decide)) fun _ => nz_ret _
theorem nz_times {α : Type} {p : Rd α} (h : NZ p) : ∀ n acc, NZ (rTimes p n acc)
  | 0, acc => fun l e h => by cases h
  | n + 1, acc => fun l e he => by
    unfold rTimes at he
    cases hp : p l with
    | error e' => rw [hp] at he; simp only [Except.error.injEq] at he; subst he; exact h l _ hp
    | ok x => obtain ⟨a, r⟩ := x; rw [hp] at he; exact nz_times h n _ r e he
theorem nz_list {α : Type} {p : Rd α} (m : Int) (h : NZ p) : NZ (rList m p) := nz_nxt (nz_count m) fun _ => nz_times h _ _
theorem nz_kind : NZ rKind := nz_nxt nz_next fun _ => nz_nxt (nz_need _ _ (by decide)) fun _ => nz_ret _
theorem nz_name : NZ rName := nz_nxt (nz_count _) fun _ => nz_nxt (nz_piece _) fun _ => nz_nxt (nz_need _ _ (by decide)) fun _ => nz_ret _
theorem nz_sigv : NZ rSig := nz_nxt (nz_fix _ _ (by decide)) fun _ => nz_nxt (nz_list _ nz_kind) fun _ => nz_nxt (nz_list _ nz_kind) fun _ => nz_ret _
theorem nz_exp : NZ rExp := nz_nxt nz_name fun _ => nz_nxt (nz_fix _ _ (by decide)) fun _ => nz_nxt nz_num fun _ => nz_ret _
theorem nz_imp : NZ rImp := nz_nxt nz_name fun _ => nz_nxt (nz_need _ _ (by decide)) fun _ => nz_exp
theorem nz_glo : NZ rGlo := nz_nxt nz_kind fun _ => nz_nxt nz_next fun _ => nz_nxt (nz_need _ _ (by decide)) fun _ => nz_nxt nz_next fun _ => nz_nxt (nz_need _ _ (by decide)) fun _ => nz_nxt (nz_need _ _ (by decide)) fun _ => nz_nxt (nz_sgn _) fun _ => nz_nxt (nz_fix _ _ (by decide)) fun _ => nz_ret _
theorem nz_place : NZ rPlace := nz_nxt (nz_fix _ _ (by decide)) fun _ => nz_nxt (nz_fix _ _ (by decide)) fun _ => nz_nxt (nz_sgn _) fun _ => nz_nxt (nz_fix _ _ (by decide)) fun _ => nz_ret _
theorem nz_ele : NZ rEle := nz_nxt nz_place fun _ => nz_nxt (nz_list _ nz_num) fun _ => nz_ret _
theorem nz_dat : NZ rDat := nz_nxt nz_place fun _ => nz_nxt (nz_count _) fun _ => nz_nxt (nz_piece _) fun _ => nz_ret _
theorem nz_alone {α : Type} {p : Rd α} (h : NZ p) (c : List Int) (e : Int) (he : alone p c = .error e) : e ≠ 0 := by
  unfold alone at he
  cases hp : p c with
  | error e' => rw [hp] at he; simp only [Except.error.injEq] at he; subst he; exact h c _ hp
  | ok x =>
    obtain ⟨v, r⟩ := x
    rw [hp] at he
    dsimp only at he
    split at he
    · cases he
    · simp only [Except.error.injEq] at he; subst he; decide
theorem nz_inner {α : Type} {p : Rd α} (h : NZ p) : NZ (rInner p) := nz_nxt nz_num fun n => nz_nxt (nz_piece n) fun s l e he => by
  cases ha : alone p s with
  | error e' => rw [ha] at he; simp only [Except.error.injEq] at he; subst he; exact nz_alone h s _ ha
  | ok v => rw [ha] at he; cases he
theorem nz_grps : ∀ n acc, NZ (rGrps n acc)
  | 0, acc => fun l e h => by cases h
  | n + 1, acc => nz_nxt nz_num fun _ => nz_nxt nz_kind fun _ => nz_nxt (nz_need _ _ (by decide)) fun _ => nz_grps n _
theorem nz_body : NZ rBody := by
  intro l e h
  unfold rBody at h
  split at h
  · cases h
  · rename_i h0
    simp only [Except.error.injEq] at h
    subst h
    exact h0
theorem nz_fun : NZ rFun := nz_nxt (nz_count _) fun _ => nz_nxt (nz_grps _ _) fun _ => nz_nxt nz_body fun _ => nz_ret _
theorem nz_code : NZ rCode := nz_inner nz_fun
theorem nz_if {α : Type} {P : Prop} [Decidable P] {p q : Rd α} (hp : NZ p) (hq : NZ q) : NZ (if P then p else q) := by
  split
  · exact hp
  · exact hq
theorem nz_table : NZ rTable := nz_nxt (nz_count _) fun _ => nz_if (nz_ret _) (nz_nxt (nz_fix _ _ (by decide)) fun _ => nz_nxt (nz_fix _ _ (by decide)) fun _ => nz_count _)
theorem nz_mem : NZ rMem := nz_nxt (nz_count _) fun _ => nz_if (nz_ret _) (nz_nxt (nz_fix _ _ (by decide)) fun _ => nz_nxt nz_num fun _ => nz_nxt (nz_count _) fun _ => nz_nxt (nz_need _ _ (by decide)) fun _ => nz_ret _)
theorem nz_start : NZ rStart := nz_nxt nz_num fun _ => nz_nxt (nz_need _ _ (by decide)) fun _ => nz_ret _
theorem nz_fill (n : Nat) (d : DrV) : NZ (rFill n d) := by
  unfold rFill
  split
  · exact nz_nxt (nz_list _ nz_sigv) fun _ => nz_ret _
  · exact nz_nxt (nz_list _ nz_imp) fun _ => nz_ret _
  · exact nz_nxt (nz_list _ nz_num) fun _ => nz_ret _
  · exact nz_nxt nz_table fun _ => nz_ret _
  · exact nz_nxt nz_mem fun _ => nz_ret _
  · exact nz_nxt (nz_list _ nz_glo) fun _ => nz_ret _
  · exact nz_nxt (nz_list _ nz_exp) fun _ => nz_ret _
  · exact nz_nxt nz_start fun _ => nz_ret _
  · exact nz_nxt (nz_list _ nz_ele) fun _ => nz_ret _
  · exact nz_nxt (nz_list _ nz_code) fun _ => nz_ret _
  · exact nz_nxt (nz_list _ nz_dat) fun _ => nz_ret _
  · exact nz_ret _
theorem nz_secs (last : Nat) (d : DrV) (l : List Int) (e : Int) (h : rSecs last d l = .error e) : e ≠ 0 := by
  induction last, d, l using rSecs.induct with
  | case1 last d => rw [rSecs] at h; cases h
  | case2 last d b l h1 h2 e' hi =>
    rw [rSecs, dif_pos h1, dif_pos h2, hi] at h
    simp only [Except.error.injEq] at h
    subst h
    exact nz_inner (nz_fill _ _) _ _ hi
  | case3 last d b l h1 h2 d1 r hi ih =>
    rw [rSecs, dif_pos h1, dif_pos h2, hi] at h
    exact ih h
  | case4 last d b l h1 h2 =>
    rw [rSecs, dif_pos h1, dif_neg h2] at h
    simp only [Except.error.injEq] at h
    subst h
    decide
  | case5 last d b l h1 =>
    rw [rSecs, dif_neg h1] at h
    simp only [Except.error.injEq] at h
    subst h
    decide
theorem nz_fixes : ∀ h, NZ (rFixes h)
  | [] => fun l e h => by cases h
  | b :: r => nz_nxt (nz_fix _ _ (by decide)) fun _ => nz_fixes r
theorem rMod_ne (l : List Int) {e : Int} (h : rMod l = .error e) : e ≠ 0 := by
  unfold rMod at h
  split at h
  · simp only [Except.error.injEq] at h; subst h; decide
  · cases hf : rFixes head8 l with
    | error e' => rw [hf] at h; simp only [Except.error.injEq] at h; subst h; exact nz_fixes _ _ _ hf
    | ok q =>
      obtain ⟨u, r⟩ := q
      rw [hf] at h
      dsimp only at h
      cases hs : rSecs 0 DrV.zero r with
      | error e' => rw [hs] at h; simp only [Except.error.injEq] at h; subst h; exact nz_secs _ _ _ _ hs
      | ok d =>
        rw [hs] at h
        dsimp only at h
        split at h
        · cases h
        · simp only [Except.error.injEq] at h; subst h; decide
end Go.Proofs.YtakpkdckajjooaaGreatDoor
