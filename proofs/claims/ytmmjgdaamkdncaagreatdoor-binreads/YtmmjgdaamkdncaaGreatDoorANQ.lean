import Derived.Test.YtmmjgdaamkdncaaGreatDoorAGNst
namespace Go.Proofs.YtmmjgdaamkdncaaGreatDoor
set_option maxHeartbeats 8000000
set_option maxRecDepth 1000000
set_option linter.unusedVariables false
open Go.RowKit
structure V4 where
 op : Int
 A : Int
 B : Int
 xs : List Int
def InsD.val (d : InsD) : V4 := ⟨d.op,d.A,d.B,d.xs⟩
def Got.val (g : Got) : V4 := ⟨g.op,g.A,g.B,g.To⟩
def V4.chk (v : V4) : Int := ybV v.op v.A v.B v.xs.length v.xs
def V4.text (v : V4) : List Int := v.op :: yjD (xdM v.op) v.A v.B v.xs
def xpZ : List V4 -> List Int -> Bool -> Int × List Int × Bool
 | [],bs,en => (0,bs,en)
 | v :: V,bs,en => if (xaH v.chk v.op bs en).1 = 0 then xpZ V (xaH v.chk v.op bs en).2.1 (xaH v.chk v.op bs en).2.2 else xaH v.chk v.op bs en
theorem xuJ (d : InsD) (h : d.xs.length = d.n) : d.val.chk = xeK d := by
 unfold V4.chk xeK
 rw [show d.val.xs.length = d.n from h]
 rfl
def xmU (pre : List V4) (q : Int × List V4 × List Int) : Int × List V4 × List Int := if q.1 = 0 then (0,pre ++ q.2.1,q.2.2) else (q.1,[],[])
def nRd : Nat -> List Int -> List Int -> Int × List V4 × List Int
 | 0,l,_ => if (xbZ l 0).e = 0 then (2,[],[]) else ((xbZ l 0).e,[],[])
 | f + 1,l,bs => if (xbZ l 0).e = 0 then
   (if (xaH (xbZ l 0).val.chk (xbZ l 0).op bs false).1 = 0 then
    (if (xaH (xbZ l 0).val.chk (xbZ l 0).op bs false).2.2 = true then (0,[(xbZ l 0).val],(xbZ l 0).l)
     else xmU [(xbZ l 0).val] (nRd f (xbZ l 0).l (xaH (xbZ l 0).val.chk (xbZ l 0).op bs false).2.1))
    else ((xaH (xbZ l 0).val.chk (xbZ l 0).op bs false).1,[],[]))
   else ((xbZ l 0).e,[],[])
theorem xsM (p : List V4) (v : V4) (q : Int × List V4 × List Int) : xmU p (xmU [v] q) = xmU (p ++ [v]) q := by
 unfold xmU
 by_cases h : q.1 = 0
 ·rw [if_pos h,if_pos h,if_pos rfl]
  simp
 ·rw [if_neg h,if_neg h,if_neg h]
theorem xgP (p : List V4) (e : Int) (h : e ≠ 0) : xmU p (e,[],[]) = (e,[],[]) := by
 unfold xmU
 rw [if_neg h]
theorem xsN (q : Int × List V4 × List Int) (h : q.1 = 0 \/ q.2 = ([],[])) : xmU [] q = q := by
 obtain ⟨a,b,c⟩ := q
 unfold xmU
 rcases h with h | h
 ·simp only at h
  subst h
  rfl
 ·by_cases h0 : a = 0
  ·subst h0
   rfl
  ·rw [if_neg h0]
   simp only [Prod.mk.injEq] at h ⊢
   exact ⟨trivial,h.1.symm,h.2.symm⟩
theorem xrD (f : Nat) (l bs : List Int) : (nRd f l bs).1 = 0 \/ (nRd f l bs).2 = ([],[]) := by
 cases f with
 | zero => rw [nRd]; split <;> exact Or.inr rfl
 | succ f =>
  rw [nRd]
  split
  ·split
   ·split
    ·exact Or.inl rfl
    ·unfold xmU
     split
     ·exact Or.inl rfl
     ·exact Or.inr rfl
   ·exact Or.inr rfl
  ·exact Or.inr rfl
theorem xhG (l : List Int) (a : Int) : (xbJ l a).2.1 <:+ l := by
 cases l with
 | nil => exact List.suffix_refl _
 | cons b r => exact List.suffix_cons b r
theorem xeN (l : List Int) (a : Int) : (xaT l a).2.1 <:+ l := by
 unfold xaT
 split
 ·exact List.drop_suffix _ _
 ·exact List.suffix_refl _
theorem xsY (B : Int) (l : List Int) (a : Int) : (xcR B l a).2.1 <:+ l := by
 unfold xcR
 split
 ·exact List.drop_suffix _ _
 ·exact List.suffix_refl _
theorem xlB : ∀ (n : Nat) (l : List Int) (a : Int),(xbL n l a).2.1 <:+ l
 | 0,l,a => List.suffix_refl _
 | n + 1,l,a => by
  rw [xbL]
  exact (xlB n _ _).trans (xeN l a)
theorem xwJ (l : List Int) (a : Int) : (xaP l a).2.1 <:+ l := by
 unfold xaP
 split
 ·exact xeN l a
 ·exact (xlB _ _ _).trans (xeN l a)
theorem xmB (l : List Int) (a : Int) : (xbZ l a).l <:+ l := by
 unfold xbZ
 refine List.IsSuffix.trans ?_ (xhG l a)
 generalize (xbJ l a).2.1 = l1
 generalize (xbJ l a).2.2 = a1
 unfold xlY
 split; · exact List.suffix_refl _
 split; · exact List.suffix_refl _
 split; · exact xhG l1 a1
 split; · exact xeN l1 a1
 split; · exact (xeN _ _).trans (xwJ l1 a1)
 split; · exact (xhG _ _).trans (xeN l1 a1)
 split; · exact (xeN _ _).trans (xeN l1 a1)
 split; · exact xhG l1 a1
 split; · exact xsY 32 l1 a1
 exact xsY 64 l1 a1
theorem xjW {a b : List Int} (h : a <:+ b) : a = b.drop (b.length - a.length) := List.suffix_iff_eq_drop.1 h
theorem xyC (v : V4) (h : v.chk = 0) : v.xs.length <= 16 /\ ykS (xdM v.op) v.A v.B v.xs := by
 have hrg := xdF v.op
 unfold V4.chk ybV at h
 split at h
 ·omega
 ·split at h
  ·omega
  ·split at h
   ·rename_i h1 h2 h3
    exact ⟨by omega,yaG (xdM v.op) v.A v.B v.xs.length v.xs (by omega) hrg.2 rfl (by omega) h3⟩
   ·omega
theorem xqA {c op : Int} {bs : List Int} {en : Bool} (h : (xaH c op bs en).1 = 0) : c = 0 /\ en = false := by
 unfold xaH at h
 by_cases hc : c = 0
 ·refine ⟨hc,?_⟩
  rw [if_neg (by simpa using hc)] at h
  cases en with
  | false => rfl
  | true => rw [if_pos rfl] at h; exact absurd h (by simp)
 ·rw [if_pos hc] at h
  exact absurd h hc
theorem xsH : ∀ (V : List V4) (bs : List Int),(xpZ V bs true).1 = 0 -> V = []
 | [],_,_ => rfl
 | v :: V,bs,h => by
  rw [xpZ] at h
  by_cases h0 : (xaH v.chk v.op bs true).1 = 0
  ·exact absurd (xqA h0).2 (by decide)
  ·rw [if_neg h0] at h
   exact absurd h h0
def V4.rng (v : V4) : Prop := -9223372036854775808 <= v.A /\ v.A <= 9223372036854775807
theorem yaU : ∀ (V : List V4) (f : Nat) (bs more : List Int),V.length <= f -> (∀ v ∈ V,v.rng) -> (xpZ V bs false).1 = 0 -> (xpZ V bs false).2.2 = true -> nRd f (V.flatMap V4.text ++ more) bs = (0,V,more)
 | [],_,_,_,_,_,_,h => absurd h (by simp [xpZ])
 | v :: V,0,_,_,hf,_,_,_ => absurd hf (by simp)
 | v :: V,f + 1,bs,more,hf,hr,h1,h2 => by
  rw [xpZ] at h1 h2
  by_cases h0 : (xaH v.chk v.op bs false).1 = 0
  ·rw [if_pos h0] at h1 h2
   have hc := (xqA h0).1
   obtain ⟨_,hfit⟩ := xyC v hc
   have hm := xwH v.op v.A v.B v.xs hfit (hr v (by simp)) (V.flatMap V4.text ++ more)
   have e0 : (v :: V).flatMap V4.text ++ more = (v.op :: yjD (xdM v.op) v.A v.B v.xs) ++ (V.flatMap V4.text ++ more) := by
    rw [List.flatMap_cons,List.append_assoc]
    rfl
   rw [e0,nRd,hm,show Got.val ⟨v.op,v.A,v.B,v.xs,V.flatMap V4.text ++ more,0⟩ = v from rfl]
   dsimp only
   rw [if_pos rfl,if_pos h0]
   by_cases he : (xaH v.chk v.op bs false).2.2 = true
   ·rw [he] at h1
    have := xsH V _ h1
    subst this
    rw [if_pos he]
    rfl
   ·rw [if_neg he]
    rw [Bool.not_eq_true] at he
    rw [he] at h1 h2
    rw [yaU V f _ more (by simpa using hf) (fun x hx => hr x (by simp [hx])) h1 h2]
    rfl
  ·rw [if_neg h0] at h1
   exact absurd h1 h0
theorem xrE : ∀ (f : Nat) (l bs : List Int) (V : List V4) (r : List Int),(∀ b ∈ l,0 <= b /\ b < 256) -> nRd f l bs = (0,V,r) -> V.length <= f /\ V ≠ [] /\ (∀ v ∈ V,v.rng /\ 0 <= v.op /\ v.op <= 255) /\ (xpZ V bs false).1 = 0 /\ (xpZ V bs false).2.2 = true /\ r <:+ l /\ (V.flatMap V4.text).length + r.length <= l.length
 | 0,l,bs,V,r,_,h => by
  rw [nRd] at h
  split at h
  ·simp at h
  ·rename_i h0
   simp at h
   exact absurd h.1 h0
 | f + 1,l,bs,V,r,hl,h => by
  rw [nRd] at h
  split at h
  ·rename_i h0
   obtain ⟨ho,_,hA,hlen⟩ := xqS l hl h0
   have hsuf := xmB l 0
   split at h
   ·rename_i h1
    split at h
    ·rename_i h2
     simp only [Prod.mk.injEq,true_and] at h
     obtain ⟨rfl,rfl⟩ := h
     refine ⟨by simp,by simp,?_,?_,?_,hsuf,?_⟩
     ·intro v hv
      rw [List.mem_singleton] at hv
      subst hv
      exact ⟨hA,ho⟩
     ·rw [xpZ,if_pos (show (xaH (xbZ l 0).val.chk (xbZ l 0).val.op bs false).1 = 0 from h1)]
      rfl
     ·rw [xpZ,if_pos (show (xaH (xbZ l 0).val.chk (xbZ l 0).val.op bs false).1 = 0 from h1)]
      exact h2
     ·simp only [List.flatMap_cons,List.flatMap_nil,List.append_nil,V4.text,List.length_cons]
      simp only [Got.val]
      omega
    ·rename_i h2
     rw [Bool.not_eq_true] at h2
     unfold xmU at h
     split at h
     ·rename_i h3
      simp only [Prod.mk.injEq,true_and] at h
      obtain ⟨rfl,rfl⟩ := h
      have hl2 : ∀ b ∈ (xbZ l 0).l,0 <= b /\ b < 256 := fun b hb => hl b (hsuf.subset hb)
      have eq : nRd f (xbZ l 0).l (xaH (xbZ l 0).val.chk (xbZ l 0).op bs false).2.1 = (0,(nRd f (xbZ l 0).l (xaH (xbZ l 0).val.chk (xbZ l 0).op bs false).2.1).2.1,(nRd f (xbZ l 0).l (xaH (xbZ l 0).val.chk (xbZ l 0).op bs false).2.1).2.2) := Prod.ext h3 rfl
      obtain ⟨q1,q2,q3,q4,q5,q6,q7⟩ := xrE f (xbZ l 0).l _ _ _ hl2 eq
      refine ⟨by simp; omega,by simp,?_,?_,?_,q6.trans hsuf,?_⟩
      ·intro v hv
       rw [List.singleton_append,List.mem_cons] at hv
       rcases hv with rfl | hv
       ·exact ⟨hA,ho⟩
       ·exact q3 v hv
      ·rw [List.singleton_append,xpZ,if_pos (show (xaH (xbZ l 0).val.chk (xbZ l 0).val.op bs false).1 = 0 from h1)]
       rw [show (xaH (xbZ l 0).val.chk (xbZ l 0).val.op bs false).2.2 = false from h2]
       exact q4
      ·rw [List.singleton_append,xpZ,if_pos (show (xaH (xbZ l 0).val.chk (xbZ l 0).val.op bs false).1 = 0 from h1)]
       rw [show (xaH (xbZ l 0).val.chk (xbZ l 0).val.op bs false).2.2 = false from h2]
       exact q5
      ·rw [List.singleton_append,List.flatMap_cons,List.length_append]
       have e1 : (xbZ l 0).val.text.length = (yjD (xdM (xbZ l 0).op) (xbZ l 0).A (xbZ l 0).B (xbZ l 0).To).length + 1 := rfl
       rw [e1]
       omega
     ·rename_i h3
      simp at h
      exact absurd h.1 h3
   ·rename_i h1
    simp at h
    exact absurd h.1 h1
  ·rename_i h0
   simp at h
   exact absurd h.1 h0
theorem Tryz.infoIns : (Tryz.prog.info? 100).map (fun i => (i.zero,i.size,i.bytes)) = some (some (.agg #[.int .u8 0,.int .i64 0,.int .i64 0,.slice none 0 0]),4,48) := by kernel_rfl
def InsD.cells (d : InsD) : List Value := [.int .u8 d.op,.int .i64 d.A,.int .i64 d.B,.slice d.o d.n d.cap]
def xeI (L : List InsD) : List Value := L.flatMap InsD.cells
theorem xqL (L : List InsD) (d : InsD) : xeI (L ++ [d]) = xeI L ++ d.cells := by
 unfold xeI
 simp
theorem xmW : ∀ (L : List InsD) (i r : Nat) (h : i < L.length),r < 4 -> (xeI L)[i * 4 + r]? = (L[i]).cells[r]?
 | [],i,r,h,_ => absurd h (by simp)
 | d :: L,0,r,h,hr => by
  unfold xeI
  rw [List.flatMap_cons,List.getElem?_append_left (by simp [InsD.cells]; omega)]
  simp
 | d :: L,i + 1,r,h,hr => by
  have h2 : i < L.length := by simpa using h
  have := xmW L i r h2 hr
  unfold xeI at this ⊢
  rw [List.flatMap_cons,List.getElem?_append_right (by simp [InsD.cells]; omega)]
  rw [show (i + 1) * 4 + r - d.cells.length = i * 4 + r by simp [InsD.cells]; omega,this]
  simp
structure IR (w : World) (B : Nat) (o : Option Addr) (k cap : Nat) (L : List InsD) : Prop where
 own : w.ownsRow B 100 4 (.slice o k cap) k (xeI L)
 len : L.length = k
 ok : ∀ d ∈ L,d.ok w
 ty : ∀ d ∈ L,0 < d.n -> ∃ (g : Addr) (cur : Array Value) (f : Nat × Nat),d.o = some g /\ w.heap[g.block]? = some (.cells cur 2 f)
theorem xpA {w w' : World} {d : InsD} (h : d.ok w) (hs : w.heap.size <= w'.heap.size) (hk : 0 < d.n -> ∀ g,d.o = some g -> w'.heap[g.block]? = w.heap[g.block]?) : d.ok w' := by
 refine ⟨h.op0,h.op1,h.a,h.cap,h.most,?_,h.nil⟩
 obtain ⟨h1,h2⟩ := h.lj
 refine ⟨h1,?_⟩
 rcases h2 with h2 | ⟨a,ha,hb,hc⟩
 ·exact Or.inl h2
 ·rcases Nat.eq_zero_or_pos d.n with h0 | h0
  ·exact Or.inl h0
  ·refine Or.inr ⟨a,ha,Nat.lt_of_lt_of_le hb hs,fun i hi => ?_⟩
   rw [World.cell?_of_block (w := w) (by rw [xhA]; exact hk h0 a ha)]
   exact hc i hi
theorem IR.nil (w : World) (B : Nat) : IR w B none 0 0 [] := ⟨World.ownsRow_nil _ _ _ _,rfl,by simp,by simp⟩
theorem IR.keep {w w' : World} {B k cap : Nat} {o : Option Addr} {L : List InsD} (h : IR w B o k cap L) (hs : w.heap.size <= w'.heap.size) (h2 : ∀ (j : Nat) (cur : Array Value) (f : Nat × Nat),w.heap[j]? = some (.cells cur 2 f) -> w'.heap[j]? = w.heap[j]?) (h52 : ∀ (j : Nat) (cur : Array Value) (f : Nat × Nat),w.heap[j]? = some (.cells cur 100 f) -> w'.heap[j]? = w.heap[j]?) : IR w' B o k cap L := by
 refine ⟨⟨h.own.1,?_⟩,h.len,fun d hd => xpA (h.ok d hd) hs fun h0 g hg => ?_,fun d hd h0 => ?_⟩
 ·rcases h.own.2 with hn | ⟨g,c,cur,hv,hb,hg,rest⟩
  ·exact Or.inl hn
  ·exact Or.inr ⟨g,c,cur,hv,hb,by rw [h52 g cur _ hg]; exact hg,rest⟩
 ·obtain ⟨g',cur,f,e,hc⟩ := h.ty d hd h0
  rw [hg] at e
  cases e
  exact h2 _ _ _ hc
 ·obtain ⟨g',cur,f,e,hc⟩ := h.ty d hd h0
  exact ⟨g',cur,f,e,by rw [h2 _ _ _ hc]; exact hc⟩
theorem xaU {w : World} {j : Nat} {x : Obj} (h : w.heap[j]? = some x) : j < w.heap.size := (Array.getElem?_eq_some_iff.1 h).1
theorem IR.under {w w' : World} {B k cap : Nat} {o : Option Addr} {L : List InsD} (h : IR w B o k cap L) (b : Below w.heap.size w w') : IR w' B o k cap L :=
 h.keep b.size (fun j _ _ hj => b.block j (xaU hj)) (fun j _ _ hj => b.block j (xaU hj))
theorem IR.capm {w : World} {B k cap : Nat} {o : Option Addr} {L : List InsD} (h : IR w B o k cap L) : k <= cap /\ cap <= maxLen := by
 rcases h.own.2 with ⟨h1,h2⟩ | ⟨g,c,cur,h1,_,_,h2,h3,_⟩
 ·simp only [Value.slice.injEq] at h1
  unfold maxLen
  omega
 ·simp only [Value.slice.injEq] at h1
  omega
theorem IR.LD {w : World} {B k cap : Nat} {o : Option Addr} {L : List InsD} (h : IR w B o k cap L) : LD w o L := by
 refine ⟨h.ok,?_⟩
 rcases Nat.eq_zero_or_pos k with h0 | h0
 ·left
  have := h.len
  rw [h0] at this
  exact List.length_eq_zero_iff.1 this
 ·right
  obtain ⟨g,c,hv,_,hg⟩ := h.own.form h0
  simp only [Value.slice.injEq] at hv
  obtain ⟨rfl,_,rfl⟩ := hv
  refine ⟨g,0,rfl,hg,fun i hi => ?_⟩
  have hik : i < k := by rw [<- h.len]; exact hi
  have q : ∀ r,r < 4 -> w.cell? ⟨g,0 + i * 4 + r,none⟩ = (L[i]).cells[r]? := fun r hr => by
   rw [<- xmW L i r hi hr,<- h.own.cellAt (i * 4 + r) (by omega),Nat.zero_add]
  exact ⟨q 0 (by omega),q 1 (by omega),q 2 (by omega),q 3 (by omega)⟩
theorem IR.app {w w1 : World} {B k cap g c : Nat} {o : Option Addr} {L : List InsD} {d : InsD} (h : IR w B o k cap L) (hd : d.ok w) (ht : 0 < d.n -> ∃ (g : Addr) (cur : Array Value) (f : Nat × Nat),d.o = some g /\ w.heap[g.block]? = some (.cells cur 2 f))
  (hown : w1.ownsRow B 100 4 (.slice (some ⟨g,0,none⟩) (k + 1) c) (k + 1) (xeI L ++ d.cells)) (hg : w.grownBy w1 (Value.slice o k cap).ownBlock) : IR w1 B (some ⟨g,0,none⟩) (k + 1) c (L ++ [d]) := by
 have far : ∀ (j : Nat) (cur : Array Value) (f : Nat × Nat),w.heap[j]? = some (.cells cur 2 f) -> some j ≠ (Value.slice o k cap).ownBlock := by
  intro j cur f hj e
  rcases h.own.2 with ⟨h1,_⟩ | ⟨g,c,cur,h1,_,h3,_⟩
  ·rw [h1] at e
   simp [Value.ownBlock] at e
  ·rw [h1] at e
   simp only [Value.ownBlock,Option.some.injEq] at e
   rw [e,h3] at hj
   simp at hj
 have keep : ∀ (j : Nat) (cur : Array Value) (f : Nat × Nat),w.heap[j]? = some (.cells cur 2 f) -> w1.heap[j]? = w.heap[j]? := fun j cur f hj => hg.block j (xaU hj) (far j cur f hj)
 refine ⟨by rw [xqL]; exact hown,by simp [h.len],fun x hx => ?_,fun x hx h0 => ?_⟩
 ·have hx2 : x.ok w /\ (0 < x.n -> ∃ (g : Addr) (cur : Array Value) (f : Nat × Nat),x.o = some g /\ w.heap[g.block]? = some (.cells cur 2 f)) := by
   rw [List.mem_append,List.mem_singleton] at hx
   rcases hx with hx | rfl
   ·exact ⟨h.ok x hx,h.ty x hx⟩
   ·exact ⟨hd,ht⟩
  refine xpA hx2.1 hg.size fun h0 a ha => ?_
  obtain ⟨g',cur,f,e,hc⟩ := hx2.2 h0
  rw [ha] at e
  cases e
  exact keep _ _ _ hc
 ·have hx2 : 0 < x.n -> ∃ (g : Addr) (cur : Array Value) (f : Nat × Nat),x.o = some g /\ w.heap[g.block]? = some (.cells cur 2 f) := by
   rw [List.mem_append,List.mem_singleton] at hx
   rcases hx with hx | rfl
   ·exact h.ty x hx
   ·exact ht
  obtain ⟨g',cur,f,e,hc⟩ := hx2 h0
  exact ⟨g',cur,f,e,by rw [keep _ _ _ hc]; exact hc⟩
theorem NS.off {w : World} {B P j : Nat} {bs : List Int} {e : Bool} (h : NS w B P bs e) {cur : Array Value} {t : TypeId} {f : Nat × Nat} (hj : w.heap[j]? = some (.cells cur t f)) (h1 : t ≠ 154) (h2 : t ≠ 5) : j ≠ P /\ ob w P ≠ some j := by
 obtain ⟨o,cap,hP,hr,_⟩ := h
 constructor
 ·intro e
  rw [e,hP] at hj
  simp only [Option.some.injEq,Obj.cells.injEq] at hj
  exact h1 hj.2.1.symm
 ·rw [xlL hP]
  intro e
  rcases hr.2 with ⟨hv,_⟩ | ⟨g,c,cu,hv,_,hg,_⟩
  ·rw [hv] at e
   simp [Value.ownBlock] at e
  ·rw [hv] at e
   simp only [Value.ownBlock,Option.some.injEq] at e
   rw [<- e,hg] at hj
   simp only [Option.some.injEq,Obj.cells.injEq] at hj
   exact h2 hj.2.1.symm
theorem NK.typed {w w' : World} {B P j : Nat} {bs : List Int} {e : Bool} (k : NK P w w') (h : NS w B P bs e) {cur : Array Value} {t : TypeId} {f : Nat × Nat} (hj : w.heap[j]? = some (.cells cur t f)) (h1 : t ≠ 154) (h2 : t ≠ 5) : w'.heap[j]? = w.heap[j]? :=
 k.block j (xaU hj) (h.off hj h1 h2).1 (h.off hj h1 h2).2
theorem IR.step {w w' : World} {B P k cap : Nat} {o : Option Addr} {L : List InsD} {bs : List Int} {e : Bool} (h : IR w B o k cap L) (hn : NS w B P bs e) (hk : NK P w w') : IR w' B o k cap L :=
 h.keep hk.size (fun _ _ _ hj => hk.typed hn hj (by decide) (by decide)) (fun _ _ _ hj => hk.typed hn hj (by decide) (by decide))
theorem NS.grown {w w1 : World} {B P k cap : Nat} {o : Option Addr} {L : List InsD} {bs : List Int} {e : Bool} (hn : NS w B P bs e) (h : IR w B o k cap L) (hg : w.grownBy w1 (Value.slice o k cap).ownBlock) : NS w1 B P bs e := by
 have far : ∀ j,(Value.slice o k cap).ownBlock = some j -> j ≠ P /\ ob w P ≠ some j := by
  intro j e
  rcases h.own.2 with ⟨h1,_⟩ | ⟨g,c,cur,h1,_,h3,_⟩
  ·rw [h1] at e
   simp [Value.ownBlock] at e
  ·rw [h1] at e
   simp only [Value.ownBlock,Option.some.injEq] at e
   rw [e] at h3
   exact hn.off h3 (by decide) (by decide)
 have hP := hn.lt
 obtain ⟨o',cap',h1,h2,h3,h4⟩ := hn
 refine ⟨o',cap',?_,h2.kept hg ?_,h3,h4⟩
 ·rw [hg.block P hP fun e => (far P e.symm).1 rfl]
  exact h1
 ·rw [xlL h1] at far
  cases hv : (Value.slice o' bs.length cap').ownBlock with
  | none => exact Or.inl rfl
  | some g =>
   right
   intro e
   exact (far g (e ▸ rfl)).2 hv
theorem IsI.ins {w : World} {B : Nat} {v : Value} {xs : List Int} {op A B' : Int} (h : IsI w B v xs) (h0 : 0 <= op) (h1 : op <= 255) (hA : -9223372036854775808 <= A /\ A <= 9223372036854775807) (hx : xs.length <= 1000) : ∃ o,v = .slice o xs.length xs.length /\ InsD.ok w ⟨op,A,B',o,xs.length,xs.length,xs⟩ /\ (0 < xs.length -> ∃ (g : Addr) (cur : Array Value) (f : Nat × Nat),o = some g /\ w.heap[g.block]? = some (.cells cur 2 f)) := by
 rcases h with ⟨rfl,rfl⟩ | ⟨g,rfl,hg⟩
 ·exact ⟨none,rfl,⟨h0,h1,hA,Nat.le_refl _,by unfold maxLen; simp,⟨rfl,Or.inl rfl⟩,fun _ => rfl⟩,fun h => absurd h (by simp)⟩
 ·refine ⟨some ⟨g,0,none⟩,rfl,⟨h0,h1,hA,Nat.le_refl _,by unfold maxLen; simp only; omega,⟨rfl,?_⟩,by simp⟩,fun _ => ?_⟩
  ·rcases Nat.eq_zero_or_pos xs.length with h0 | h0
   ·exact Or.inl h0
   ·right
    refine ⟨⟨g,0,none⟩,rfl,(hg.lt g rfl).2,fun i hi => ?_⟩
    have := hg.cells (g := g) rfl i (.int .i64 (xs.getD i 0)) (by
     simp only at hi
     rw [List.getElem?_map,List.getElem?_eq_getElem hi,List.getD_eq_getElem?_getD,List.getElem?_eq_getElem hi]
     rfl)
    exact this
  ·rcases hg.2 with ⟨hv,_⟩ | ⟨g',c,cur,hv,_,h3,_⟩
   ·simp at hv
   ·simp only [Value.slice.injEq,Option.some.injEq,Addr.mk.injEq,and_true] at hv
    obtain ⟨rfl,_⟩ := hv
    exact ⟨_,cur,_,rfl,h3⟩
theorem xhJ (f : Nat) (l bs : List Int) (h : (xbZ l 0).e = 0) : nRd (f + 1) l bs = (if (xaH (xbZ l 0).val.chk (xbZ l 0).op bs false).1 = 0 then
        (if (xaH (xbZ l 0).val.chk (xbZ l 0).op bs false).2.2 = true then (0,[(xbZ l 0).val],(xbZ l 0).l)
         else xmU [(xbZ l 0).val] (nRd f (xbZ l 0).l (xaH (xbZ l 0).val.chk (xbZ l 0).op bs false).2.1))
    else ((xaH (xbZ l 0).val.chk (xbZ l 0).op bs false).1,[],[])) := by
 rw [nRd,if_pos h]
theorem xwM (f : Nat) (l bs : List Int) (h : (xbZ l 0).e ≠ 0) : nRd f l bs = ((xbZ l 0).e,[],[]) := by
 cases f <;> rw [nRd,if_neg h]
theorem xoL (l bs : List Int) (h : (xbZ l 0).e = 0) : nRd 0 l bs = (2,[],[]) := by
 rw [nRd,if_pos h]
def fin (en : Bool) (V : List V4) (f : Nat) (l bs : List Int) (R : Int × List V4 × List Int) : Prop := if en = true then (0,V,l) = R else xmU V (nRd f l bs) = R
theorem xtF (s : ByteArray) (hs : s.size <= maxLen) (R : Int × List V4 × List Int) (w : World) (HR0 : Hid (xmU [] (nRd 200 (xaX s) []) = R))
  (HRD : Hid (∀ (a : Nat) w',Below w.heap.size w w' -> Calls Tryz.prog 105 #[.string (s.extract a s.size)] w' fun r w'' => Below w'.heap.size w' w'' /\
   ((¬ (xbZ ((xaX s).drop a) 0).e = 0 /\ r = .returned (.tuple #[.agg #[.int .u8 0,.int .i64 0,.int .i64 0,.slice none 0 0],.int .i64 0,.int .i64 (xbZ ((xaX s).drop a) 0).e])) \/
    ((xbZ ((xaX s).drop a) 0).e = 0 /\ ∃ v,r = .returned (.tuple #[.agg #[.int .u8 (xbZ ((xaX s).drop a) 0).op,.int .i64 (xbZ ((xaX s).drop a) 0).A,.int .i64 (xbZ ((xaX s).drop a) 0).B,v],.int .i64 ((((xaX s).drop a).length : Int) - ((xbZ ((xaX s).drop a) 0).l.length : Int)),.int .i64 0]) /\ IsI w'' w'.heap.size v (xbZ ((xaX s).drop a) 0).To))))
  (HCK : Hid (∀ d : InsD,∀ w',Below w.heap.size w w' -> d.ok w' -> Calls Tryz.prog 114 #[.agg #[.int .u8 d.op,.int .i64 d.A,.int .i64 d.B,.slice d.o d.n d.cap]] w' fun r w'' => r = .returned (.int .i64 (xeK d)) /\ Below w'.heap.size w' w'')) :
  Calls Tryz.prog 96 #[.string s] w fun r w' => Below w.heap.size w w' /\ ((R.1 ≠ 0 /\ r = .returned (.tuple #[.slice none 0 0,.int .i64 0,.int .i64 R.1])) \/
   (R.1 = 0 /\ ∃ (o : Option Addr) (cap : Nat) (L : List InsD),r = .returned (.tuple #[.slice o L.length cap,.int .i64 ((s.size : Int) - (R.2.2.length : Int)),.int .i64 0]) /\ IR w' w.heap.size o L.length cap L /\ L.map InsD.val = R.2.1)) := by
 obtain ⟨i0,hi,hz0,hz1,hz2⟩ := info_parts Tryz.infoIns
 have hm : s.size <= 9223372036854775807 := by unfold maxLen at hs; omega
 have hbyte : ∀ b ∈ xaX s,0 <= b /\ b < 256 := xaE s
 have HBy := kZz hbyte
 have hnl : (xaX s).length = s.size := xaY s
 have HNL := kZz hnl
 have HN0 : Hid (NS (w.alloc (.cells #[.slice none 0 0,.bool false] 154)) w.heap.size w.heap.size [] false) := ⟨none,0,xaZ _ _,World.ownsRow_nil _ _ _ _,by simp,Nat.le_refl _⟩
 have HB0 : Hid (Below w.heap.size w (w.alloc (.cells #[.slice none 0 0,.bool false] 154))) := (Below.refl _ _).alloc (Nat.le_refl _) _
 have HI0 : Hid (IR (w.alloc (.cells #[.slice none 0 0,.bool false] 154)) w.heap.size none 0 0 []) := IR.nil _ _
 clear hbyte hnl
 go_enter Tryz.func96,Tryz.ntmps96
 go_wp2
 go_loopw [5,7] (fun lst av wr => ∃ k a cap : Nat,∃ o : Option Addr,∃ L : List InsD,∃ bs : List Int,∃ en : Bool,lst = .slice o k cap /\ av = .int .i64 (a : Int) /\ k <= 200 /\ a <= s.size /\ bs.length <= 12 /\ Hid (NS wr w.heap.size w.heap.size bs en) /\ Hid (IR wr w.heap.size o k cap L) /\ Hid (fin en (L.map InsD.val) (200 - k) ((xaX s).drop a) bs R) /\ Hid (Below w.heap.size w wr)) (fun _ av _ => s.size - (intOf av).toNat)
 case atStart => exact ⟨0,0,0,none,[],[],false,rfl,rfl,by omega,by omega,by simp,HN0,HI0,HR0,HB0⟩
 case round =>
  obtain ⟨k,a,cap,o,L,bs,en,rfl,rfl,hk,ha,hbs,HN,HI,HQ,HB⟩ := hrel
  clear HN0 HB0 HI0 HR0
  have hc1 := HN.out.cells
  have hPw : w.heap.size < wr.heap.size := HN.out.lt
  cases en with
  | true =>
   go_wp2
   go_ret3
   have hQ : (0,L.map InsD.val,(xaX s).drop a) = R := HQ.out
   subst hQ
   refine ⟨HB.out,Or.inr ⟨rfl,o,cap,L,?_,?_,rfl⟩⟩
   ·rw [HI.out.len,List.length_drop,HNL.out]
    rw [show (s.size : Int) - ((s.size - a : Nat) : Int) = (a : Int) by omega]
    rfl
   ·rw [HI.out.len]
    exact HI.out
  | false =>
   have hQ : xmU (L.map InsD.val) (nRd (200 - k) ((xaX s).drop a) bs) = R := HQ.out
   have HQ1 := kZz hQ
   clear hQ HQ
   have ha0 : (0 : Int) <= (a : Int) := by omega
   have ha1 : (a : Int) <= (s.size : Int) := by omega
   have hcl := (HI.out.capm).1
   have hcm := (HI.out.capm).2
   unfold maxLen at hcm
   go_wp2_with fail
   refine (HRD.out a _ HB.out).mono ?_
   rintro e w1 ⟨b1,h1⟩
   rcases h1 with ⟨he,rfl⟩ | ⟨he,v,rfl,hv⟩
   ·have HQ2 : Hid (((xbZ ((xaX s).drop a) 0).e,[],[]) = R) := by
     have := HQ1.out
     rw [xwM _ _ _ he,xgP _ _ he] at this
     exact this
    have HB1 : Hid (Below w.heap.size w w1) := HB.out.trans (b1.mono (by omega))
    generalize (xbZ ((xaX s).drop a) 0).e = M at he HQ2
    have hb0 : (M == 0) = false := by rw [beq_eq_false_iff_ne]; exact he
    have hn0 : (M != 0) = true := by rw [bne,hb0]; rfl
    clear HQ1 HN HI HB b1
    go_wp2
    go_ret3
    refine ⟨HB1.out.alloc (by have := HB1.out.size; omega) _,Or.inl ?_⟩
    rw [<- HQ2.out]
    exact ⟨he,rfl⟩
   ·have hbyl : ∀ b ∈ (xaX s).drop a,0 <= b /\ b < 256 := fun b hb => HBy.out b (List.mem_of_mem_drop hb)
    obtain ⟨⟨hop0,hop1⟩,hfit,hA,hlen⟩ := xqS _ hbyl he
    have hsuf := xjW (xmB ((xaX s).drop a) 0)
    have HQ2 : Hid (k = 200 -> (2,[],[]) = R) := by
     intro hk2
     have := HQ1.out
     rw [hk2,Nat.sub_self,xoL _ _ he,xgP _ _ (by decide)] at this
     exact this
    have HQ3 : Hid (k < 200 -> xmU (L.map InsD.val) (nRd (200 - k - 1 + 1) ((xaX s).drop a) bs) = R) := by
     intro hk2
     have := HQ1.out
     rw [show 200 - k = 200 - k - 1 + 1 by omega] at this
     exact this
    have HQ4 : Hid (type_of% (xhJ (200 - k - 1) ((xaX s).drop a) bs he)) := xhJ _ _ _ he
    have hTo : (xbZ ((xaX s).drop a) 0).To.length <= 1000 := by
     rcases hfit with h | h | h | h | h | h | h | h | h
     ·rw [h.2.2.2]; simp
     ·rw [h.2.2.2]; simp
     ·rw [h.2.2.2]; simp
     ·omega
     ·rw [h.2.2.2]; simp
     ·rw [h.2.2.2]; simp
     ·rw [h.2.2.2]; simp
     ·rw [h.2.2.2.2]; simp
     ·rw [h.2.2]; simp
    rw [List.length_drop,HNL.out] at hlen hsuf
    have hdl : ((xaX s).drop a).length = s.size - a := by rw [List.length_drop,HNL.out]
    rw [hdl]
    clear hbyl hfit HQ1 he hdl
    generalize xbZ ((xaX s).drop a) 0 = M at hop0 hop1 hA hlen hsuf HQ2 HQ3 HQ4 hTo hv
    obtain ⟨op,A,B,xs,lr,er⟩ := M
    simp only at hop0 hop1 hA hlen hsuf hTo hv
    have hszE : ((s.size - a : Nat) : Int) - (lr.length : Int) = ((s.size - a - lr.length : Nat) : Int) := by omega
    simp only [hszE]
    have hst : 1 <= s.size - a - lr.length := by omega
    have hsl : s.size - a - lr.length <= s.size - a := by omega
    have HLR : Hid (lr = (xaX s).drop (a + (s.size - a - lr.length))) := by
     unfold Hid
     rw [List.drop_drop] at hsuf
     exact hsuf
    generalize s.size - a - lr.length = sz at hst hsl HLR
    obtain ⟨oT,rfl,hdok,hdty⟩ := hv.ins (B' := B) hop0 hop1 hA hTo
    have HB1 : Hid (Below w.heap.size w w1) := HB.out.trans (b1.mono (by omega))
    have hw1 : w.heap.size < w1.heap.size := Nat.lt_of_lt_of_le hPw b1.size
    have bA : Below w1.heap.size w1 (w1.alloc (.cells #[.int .u8 op,.int .i64 A,.int .i64 B,.slice oT xs.length xs.length] 100)) := (Below.refl _ _).alloc (Nat.le_refl _) _
    have HN1 : Hid (NS (w1.alloc (.cells #[.int .u8 op,.int .i64 A,.int .i64 B,.slice oT xs.length xs.length] 100)) w.heap.size w.heap.size bs false) := (HN.out.under b1).under bA
    have HI1 : Hid (IR (w1.alloc (.cells #[.int .u8 op,.int .i64 A,.int .i64 B,.slice oT xs.length xs.length] 100)) w.heap.size o k cap L) := (HI.out.under b1).under bA
    have HB2 : Hid (Below w.heap.size w (w1.alloc (.cells #[.int .u8 op,.int .i64 A,.int .i64 B,.slice oT xs.length xs.length] 100))) := HB1.out.trans (bA.mono (by omega))
    obtain ⟨d,hd⟩ : ∃ d : InsD,d = ⟨op,A,B,oT,xs.length,xs.length,xs⟩ := ⟨_,rfl⟩
    have HD : Hid (d.ok w1 /\ (0 < d.n -> ∃ (g : Addr) (cur : Array Value) (f : Nat × Nat),d.o = some g /\ w1.heap[g.block]? = some (.cells cur 2 f))) := by
     rw [hd]
     exact ⟨hdok,hdty⟩
    have hXB : (w1.alloc (.cells #[.int .u8 op,.int .i64 A,.int .i64 B,.slice oT xs.length xs.length] 100)).heap[w1.heap.size]? = some (.cells #[.int .u8 op,.int .i64 A,.int .i64 B,.slice oT xs.length xs.length] 100 (0,0)) := heap_alloc_new w1 _
    have HXB := kZz hXB
    have HCd : Hid (∀ w',Below w.heap.size w w' -> d.ok w' -> Calls Tryz.prog 114 #[.agg #[.int .u8 op,.int .i64 A,.int .i64 B,.slice oT xs.length xs.length]] w' fun r w'' => r = .returned (.int .i64 (xeK d)) /\ Below w'.heap.size w' w'') := by
     have := HCK.out d
     rw [hd] at this ⊢
     exact this
    have hval : (Got.mk op A B xs lr er).val = d.val := by rw [hd]; rfl
    have hchk : d.val.chk = xeK d := xuJ d (by rw [hd])
    rw [hval,hchk] at HQ4
    dsimp only at HQ4
    have HDC : Hid (d.cells = [.int .u8 op,.int .i64 A,.int .i64 B,.slice oT xs.length xs.length]) := by rw [hd]; rfl
    have HDN : Hid (d.n = xs.length /\ d.o = oT) := by rw [hd]; exact ⟨rfl,rfl⟩
    clear hd hdok hdty hval hchk hXB bA hop0 hop1 hA hTo hv HN HI HB b1
    generalize xs.length = nx at HDC HDN HCd HXB HB2 HI1 HN1
    by_cases hk2 : k = 200
    ·subst hk2
     go_wp2
     go_ret3
     refine ⟨HB2.out,Or.inl ?_⟩
     rw [<- HQ2.out trivial]
     exact ⟨by decide,rfl⟩
    ·have hkl : k < 200 := by omega
     have hkb : ((k : Int) == 200) = false := by rw [beq_eq_false_iff_ne]; omega
     have hlen2 := xoN (xeK d) op bs false hbs
     have HST : Hid (∀ w',NS w' w.heap.size w.heap.size bs false -> Below w.heap.size w w' -> d.ok w' -> Calls Tryz.prog 106 #[.pointer (some ⟨w.heap.size,0,none⟩),.agg #[.int .u8 op,.int .i64 A,.int .i64 B,.slice oT nx nx]] w' fun r w'' => r = .returned (.int .i64 (xaH (xeK d) op bs false).1) /\ NS w'' w.heap.size w.heap.size (xaH (xeK d) op bs false).2.1 (xaH (xeK d) op bs false).2.2 /\ Below w.heap.size w' w'' /\ NK w.heap.size w' w'') := fun w' hn hb hok => xvZ w.heap.size w.heap.size bs false op A B (xeK d) oT nx nx w' hn hbs hb.size (fun w2 b2 => HCd.out w2 (hb.trans (b2.mono hb.size)) (hok.below b2))
     have HQ5 := kZz (HQ3.out hkl)
     rw [HQ4.out] at HQ5
     obtain ⟨⟨r0,bs2,en2⟩,hst2⟩ : ∃ m,xaH (xeK d) op bs false = m := ⟨_,rfl⟩
     rw [hst2] at HST HQ5 hlen2
     dsimp only at HST HQ5 hlen2
     have HDA : Hid (d.ok (w1.alloc (.cells #[.int .u8 op,.int .i64 A,.int .i64 B,.slice oT nx nx] 100)) /\ (0 < d.n -> ∃ (g : Addr) (cur : Array Value) (f : Nat × Nat),d.o = some g /\ (w1.alloc (.cells #[.int .u8 op,.int .i64 A,.int .i64 B,.slice oT nx nx] 100)).heap[g.block]? = some (.cells cur 2 f))) := by
      refine ⟨HD.out.1.below ((Below.refl _ _).alloc (Nat.le_refl _) _),fun h0 => ?_⟩
      obtain ⟨g,cur,f,e1,e2⟩ := HD.out.2 h0
      exact ⟨g,cur,f,e1,by rw [Below.heap_alloc _ _ _ (xaU e2)]; exact e2⟩
     clear hst2 HQ2 HQ3 HQ4 HCd HD
     go_wp2_with fail
     refine (HST.out _ HN1.out HB2.out HDA.out.1).mono ?_
     rintro e w2 ⟨rfl,n2,b2,k2⟩
     have hw2 : w.heap.size < w2.heap.size := n2.lt
     have HI2 : Hid (IR w2 w.heap.size o k cap L) := HI1.out.step HN1.out k2
     have HDB : Hid (d.ok w2 /\ (0 < d.n -> ∃ (g : Addr) (cur : Array Value) (f : Nat × Nat),d.o = some g /\ w2.heap[g.block]? = some (.cells cur 2 f))) := by
      refine ⟨xpA HDA.out.1 k2.size fun h0 g hg => ?_,fun h0 => ?_⟩
      ·obtain ⟨g',cur,f,e1,e2⟩ := HDA.out.2 h0
       rw [hg] at e1
       cases e1
       exact k2.typed HN1.out e2 (by decide) (by decide)
      ·obtain ⟨g,cur,f,e1,e2⟩ := HDA.out.2 h0
       exact ⟨g,cur,f,e1,by rw [k2.typed HN1.out e2 (by decide) (by decide)]; exact e2⟩
     have xX : XS w2 w1.heap.size (.int .u8 op) (.int .i64 A) (.int .i64 B) (.slice oT nx nx) := by
      unfold XS
      rw [k2.typed HN1.out HXB.out (by decide) (by decide)]
      exact HXB.out
     obtain ⟨x0,x1,x2,x3⟩ := xX.cell
     have HN2 := kZz n2
     have HB3 : Hid (Below w.heap.size w w2) := HB2.out.trans b2
     clear xX n2 b2 k2 HST HN1 HI1 HB2 HDA HXB
     by_cases hr0 : r0 = 0
     ·subst hr0
      have HQ6 : Hid (fin en2 ((L ++ [d]).map InsD.val) (200 - (k + 1)) ((xaX s).drop (a + sz)) bs2 R) := by
       have h5 := HQ5.out
       rw [if_pos rfl] at h5
       unfold Hid fin
       rw [List.map_append]
       cases en2 with
       | true =>
        rw [if_pos rfl] at h5 ⊢
        rw [<- HLR.out,<- h5]
        rfl
       | false =>
        rw [if_neg (by decide)] at h5 ⊢
        rw [xsM] at h5
        rw [<- HLR.out,show 200 - (k + 1) = 200 - k - 1 by omega]
        exact h5
      clear HQ5
      go_wp2_with (at_builtin; refine wpList_append_lies _ rfl _ _ 53 rfl w.heap.size 100 i0 (.agg #[.int .u8 0,.int .i64 0,.int .i64 0,.slice none 0 0]) 4 48 Tryz.underlying53 hi hz0 hz1 hz2 rfl (by omega) _ k (xeI L) rfl (HI2.out.own.alloc _) ⟨w2.heap.size,0,none⟩ 1 1 [.int .u8 op,.int .i64 A,.int .i64 B,.slice oT nx nx] rfl rfl (World.news_of_block (cs := #[.int .u8 op,.int .i64 A,.int .i64 B,.slice oT nx nx]) (t := 100) (fr := (0,0)) (heap_alloc_new w2 _)) (by simp [Value.oneCell']) (by omega) (by unfold maxLen; omega) (by omega) (by simp; omega) (w2.heap.size + 1) (by simp) ?_)
      intro g capg w3 hown hgrow hat hlt
      have bA : Below w2.heap.size w2 (w2.alloc (.cells #[.int .u8 op,.int .i64 A,.int .i64 B,.slice oT nx nx] 100)) := (Below.refl _ _).alloc (Nat.le_refl _) _
      have HI3 : Hid (IR w3 w.heap.size (some ⟨g,0,none⟩) (k + 1) capg (L ++ [d])) := by
       refine (HI2.out.under bA).app (HDB.out.1.below bA) (fun h0 => ?_) (by rw [HDC.out]; exact hown) hgrow
       obtain ⟨g',cur,f,e1,e2⟩ := HDB.out.2 h0
       exact ⟨g',cur,f,e1,by rw [bA.block _ (xaU e2)]; exact e2⟩
      have HN3 : Hid (NS w3 w.heap.size w.heap.size bs2 en2) := (HN2.out.under bA).grown (HI2.out.under bA) hgrow
      have HB4 : Hid (Below w.heap.size w w3) := (HB3.out.alloc (by omega) _).grown hgrow (by simp; omega) (fun j hj => (HI2.out.own.lt j hj).1)
      clear hown hgrow hat hlt bA HI2 HN2 HB3 HDB x0 x1 x2 x3
      go_wp2
      go_roundw
      case rel => exact ⟨k + 1,a + sz,capg,_,L ++ [d],bs2,en2,rfl,by go_num,by omega,by omega,hlen2,HN3,HI3,HQ6,HB4⟩
      case measure => simp [intOf]; omega
     ·have hb0 : (r0 == 0) = false := by rw [beq_eq_false_iff_ne]; exact hr0
      have hn0 : (r0 != 0) = true := by rw [bne,hb0]; rfl
      have HQ6 : Hid ((r0,[],[]) = R) := by
       have h5 := HQ5.out
       rw [if_neg hr0,xgP _ _ hr0] at h5
       exact h5
      clear HQ5
      go_wp2
      go_ret3
      refine ⟨HB3.out,Or.inl ?_⟩
      rw [<- HQ6.out]
      exact ⟨hr0,rfl⟩
theorem xwR (s : ByteArray) (hs : s.size <= maxLen) (w : World) (hT : TabIn w) (ht0 : 3 < w.heap.size) :
  Calls Tryz.prog 96 #[.string s] w fun r w' => Below w.heap.size w w' /\ (((nRd 200 (xaX s) []).1 ≠ 0 /\ r = .returned (.tuple #[.slice none 0 0,.int .i64 0,.int .i64 (nRd 200 (xaX s) []).1])) \/
   ((nRd 200 (xaX s) []).1 = 0 /\ ∃ (o : Option Addr) (cap : Nat) (L : List InsD),r = .returned (.tuple #[.slice o L.length cap,.int .i64 ((s.size : Int) - ((nRd 200 (xaX s) []).2.2.length : Int)),.int .i64 0]) /\ IR w' w.heap.size o L.length cap L /\ L.map InsD.val = (nRd 200 (xaX s) []).2.1)) := by
 refine xtF s hs _ w (xsN _ (xrD _ _ _)) (fun a w' b => ?_) (fun d w' b hk => ?_)
 ·have := xzI (s.extract a s.size) (xbF s a hs) w' (hT.chg (P := w.heap.size) (Chg.of_below b) ht0 (by omega)) (Nat.lt_of_lt_of_le ht0 b.size)
  rw [xbN,<- xaY (s.extract a s.size),xbN] at this
  exact this
 ·have hm := hk.most
  have hc := hk.cap
  unfold maxLen at hm
  exact xxQ d.op d.A d.B d.o d.n d.cap d.xs hk.op0 hk.op1 hk.cap (by omega) w' hk.lj (hT.chg (P := w.heap.size) (Chg.of_below b) ht0 (by omega)) (Nat.lt_of_lt_of_le ht0 b.size)
end Go.Proofs.YtmmjgdaamkdncaaGreatDoor
