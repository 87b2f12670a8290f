import Derived.Test.YtmmjgdaamkdncaaGreatDoorABFill
import Derived.Deep.MidRow
namespace Go.Proofs.YtmmjgdaamkdncaaGreatDoor
set_option maxHeartbeats 4000000
set_option maxRecDepth 1000000
set_option linter.unusedVariables false
open Go.RowKit
def X11 (w : World) (X : Nat) (c0 c1 c2 c3 c4 c5 c6 c7 c8 c9 c10 : Value) : Prop := w.heap[X]? = some (.cells #[c0,c1,c2,c3,c4,c5,c6,c7,c8,c9,c10] 30 (0,0))
section
variable {w w' : World} {X P : Nat} {c0 c1 c2 c3 c4 c5 c6 c7 c8 c9 c10 : Value}
theorem X11.frozen (h : X11 w X c0 c1 c2 c3 c4 c5 c6 c7 c8 c9 c10) (i : Nat) : w.frozen? ⟨X,i,none⟩ = false := by
 unfold X11 at h
 simp [World.frozen?,h]
theorem X11.chg (h : X11 w X c0 c1 c2 c3 c4 c5 c6 c7 c8 c9 c10) (c : Chg P w w') (hX : X ≠ P) : X11 w' X c0 c1 c2 c3 c4 c5 c6 c7 c8 c9 c10 := by
 unfold X11 at h ⊢
 rw [c.block X (xaU h) hX,h]
theorem X11.cell (h : X11 w X c0 c1 c2 c3 c4 c5 c6 c7 c8 c9 c10) : w.cell? ⟨X,0,none⟩ = some c0 /\ w.cell? ⟨X,1,none⟩ = some c1 /\ w.cell? ⟨X,2,none⟩ = some c2 /\ w.cell? ⟨X,3,none⟩ = some c3 /\ w.cell? ⟨X,4,none⟩ = some c4 /\ w.cell? ⟨X,5,none⟩ = some c5 /\ w.cell? ⟨X,6,none⟩ = some c6 /\ w.cell? ⟨X,7,none⟩ = some c7 /\ w.cell? ⟨X,8,none⟩ = some c8 /\ w.cell? ⟨X,9,none⟩ = some c9 /\ w.cell? ⟨X,10,none⟩ = some c10 := by
 unfold X11 at h
 simp [World.cell?,h]
end
def mcA (d : ModD) : Array Value := #[.slice d.oT d.types.length d.cT,.slice d.oI d.imports.length d.cI,.slice d.oF d.funcs.length d.cF,.int .i64 d.table,.int .i64 d.pages,.int .i64 d.most,.slice d.oG d.globals.length d.cG,.slice d.oE d.exports.length d.cE,.int .i64 d.start,.slice d.oL d.elems.length d.cL,.slice d.oD d.data.length d.cD]
theorem xdO : (Tryz.prog.info? 30).map (·.size) = some 11 := by kernel_rfl
def ModD.val (d : ModD) : DrV := ⟨d.types.map SigD.val,d.imports.map NamD.val,d.funcs.map FunD.t,d.table,d.pages,d.most,d.globals.map GloD.val,d.exports.map NamD.val,d.start,d.elems.map EleD.val,d.funcs.map FunD.cod,d.data.map DatD.val⟩
def ModG (w : World) (N : Nat) (d : ModD) : Prop := DrG w N d ⟨none,0,0,[]⟩
theorem DrG.mod {w : World} {N : Nat} {d : ModD} {f : NumD} (h : DrG w N d f) : ModG w N d := ⟨h.types,h.imports,h.funcs,h.globals,h.exports,h.elems,h.data,LR.nil _ _ _ _ _ _,h.table,h.pages,h.most,h.start⟩
theorem xnX : ∀ (L : List FunD) (k : Nat) (x : Int) (h : k < L.length),(L.set k { L[k] with t := x }).flatMap FunD.cells = (L.flatMap FunD.cells).set (k * 3) (.int .i64 x)
 | [],k,x,h => absurd h (by simp)
 | d :: L,0,x,h => by simp [FunD.cells]
 | d :: L,k + 1,x,h => by
  have h2 : k < L.length := by simpa using h
  have := xnX L k x h2
  rw [List.set_cons_succ,List.flatMap_cons,List.flatMap_cons]
  rw [List.set_append_right _ _ (by simp [FunD.cells]; omega)]
  have e : (k + 1) * 3 - d.cells.length = k * 3 := by simp [FunD.cells]; omega
  rw [e,<- this]
  simp
theorem LR.setT {w : World} {N g n cap k : Nat} {L : List FunD} {x : Int} (h : LR w N 55 3 FunD.cells FunG (some ⟨g,0,none⟩) n cap L) (hk : k < L.length) (hx : inI x) : LR (w.setCell ⟨g,k * 3,none⟩ (.int .i64 x)) N 55 3 FunD.cells FunG (some ⟨g,0,none⟩) n cap (L.set k { L[k] with t := x }) := by
 obtain ⟨⟨hl,hown⟩,hlen,hok⟩ := h
 rcases hown with ⟨hv,_⟩ | ⟨g',c',cur,hv,hB,hg,h1,h2,h3,h4⟩
 ·simp at hv
 simp only [Value.slice.injEq,Option.some.injEq,Addr.mk.injEq,and_true,true_and] at hv
 obtain ⟨rfl,rfl⟩ := hv
 have hc : Chg g w (w.setCell ⟨g,k * 3,none⟩ (.int .i64 x)) := Chg.set _ _ _ _
 have q : Kp (fun t => t != 55) w (w.setCell ⟨g,k * 3,none⟩ (.int .i64 x)) := Kp.chg hg hc _ (by decide)
 have hkn : k * 3 < n * 3 := by omega
 refine ⟨⟨by rw [xnX _ _ _ hk,List.length_set]; exact hl,Or.inr ⟨g,cap,cur.setIfInBounds (k * 3) (.int .i64 x),rfl,hB,?_,h1,h2,by simpa using h3,?_⟩⟩,by rw [List.length_set]; exact hlen,fun d hd => ?_⟩
 ·have : (w.setCell ⟨g,k * 3,none⟩ (.int .i64 x)).heap[g]? = some (.cells (cur.setIfInBounds (k * 3) (.int .i64 x)) 55 (0,0)) := by
   rw [setCell_eq_setRow w g (k * 3) cur 55 (0,0) _ hg]
   exact setRow_heap w g cur _ _ _ hg
  exact this
 ·rw [xnX _ _ _ hk,Array.toList_setIfInBounds,<- h4,List.take_set]
 ·rw [List.mem_iff_getElem] at hd
  obtain ⟨j,hj,rfl⟩ := hd
  rw [List.length_set] at hj
  rw [List.getElem_set]
  split
  ·have := hok L[k] (List.getElem_mem hk)
   exact FunG.kp (d := { L[k] with t := x }) ⟨hx,this.2⟩ q (by decide) (by decide) (by decide)
  ·exact (hok L[j] (List.getElem_mem hj)).kp q (by decide) (by decide) (by decide)
theorem yaD {N : Nat} {w w' : World} (h : Below N w w') : Below N w w'.drew := ⟨h.os,h.tape,h.output,h.size,h.block⟩
theorem ylL {A : Prop} (h : A) (P : Program) (a : Act) (w : World) (_ : wpAny P .any #[] (fun _ _ _ => True) 0 #[] a w) : A := h
theorem xuN (D : Nat) (w : World) (d : ModD) (f : NumD) (hD : DB w D d f) (hne : ((f.n : Int) == (d.funcs.length : Int)) = false) :
  Calls Tryz.prog 35 #[.pointer (some ⟨D,0,none⟩)] w fun r w' => r = pan 4 /\ Below w.heap.size w w' := by
 have hlt := hD.lt
 have HBA : Hid (Below w.heap.size w (w.alloc (.cells #[.slice none 0 0,.slice none 0 0,.slice none 0 0,.int .i64 0,.int .i64 0,.int .i64 0,.slice none 0 0,.slice none 0 0,.int .i64 0,.slice none 0 0,.slice none 0 0] 30))) := (Below.refl _ _).alloc (Nat.le_refl _) _
 have hD1 := hD.chg (Chg.of_below (P := w.heap.size) HBA.out) (by omega)
 have y2 := hD1.cell 2
 have y11 := hD1.cell 11
 unfold drC at y2 y11
 simp only [List.getElem?_toArray,List.getElem?_cons_succ,List.getElem?_cons_zero] at y2 y11
 clear hD hD1
 go_enter Tryz.func35,Tryz.ntmps35
 go_wp2
 go_region_law (go_simp; go_at_call 8; refine (xbA _ _).mono ?_; rintro r w9 ⟨rfl,rfl⟩; refine ylL (show _ /\ _ /\ _ from ⟨rfl,rfl,yaD HBA.out⟩) Tryz.prog ⟨#[],[]⟩ w ?_)
 all_goals trivial
theorem xyD (D N n : Nat) (w : World) (d : ModD) (f : NumD) (hD : DB w D d f) (hG : DrG w N d f) (hn : d.funcs.length = n) (hf : f.n = n) (hN : N <= w.heap.size) (hND : N <= D) :
  Calls Tryz.prog 35 #[.pointer (some ⟨D,0,none⟩)] w fun r w' => ∃ (m : ModD) (C : Array Value),Hid (C = mcA m) /\ r = .returned (.agg C) /\ ModG w' N m /\ m.val = drV d f /\ Below N w w' /\ Kp (fun t => t != 55) w w' := by
 have hlt := hD.lt
 have HBA : Hid (Below w.heap.size w (w.alloc (.cells #[.slice none 0 0,.slice none 0 0,.slice none 0 0,.int .i64 0,.int .i64 0,.int .i64 0,.slice none 0 0,.slice none 0 0,.int .i64 0,.slice none 0 0,.slice none 0 0] 30))) := (Below.refl _ _).alloc (Nat.le_refl _) _
 have hD1 := hD.chg (Chg.of_below (P := w.heap.size) HBA.out) (by omega)
 have y2 := hD1.cell 2
 have y11 := hD1.cell 11
 unfold drC at y2 y11
 simp only [List.getElem?_toArray,List.getElem?_cons_succ,List.getElem?_cons_zero] at y2 y11
 rw [hn] at y2
 rw [hf] at y11
 have HD1 := kZz hD1
 have HXQ : Hid (X11 (w.alloc (.cells #[.slice none 0 0,.slice none 0 0,.slice none 0 0,.int .i64 0,.int .i64 0,.int .i64 0,.slice none 0 0,.slice none 0 0,.int .i64 0,.slice none 0 0,.slice none 0 0] 30)) w.heap.size (.slice none 0 0) (.slice none 0 0) (.slice none 0 0) (.int .i64 0) (.int .i64 0) (.int .i64 0) (.slice none 0 0) (.slice none 0 0) (.int .i64 0) (.slice none 0 0) (.slice none 0 0)) := xaZ _ _
 have hQD : w.heap.size ≠ D := by omega
 have HG1 : Hid (DrG (w.alloc (.cells #[.slice none 0 0,.slice none 0 0,.slice none 0 0,.int .i64 0,.int .i64 0,.int .i64 0,.slice none 0 0,.slice none 0 0,.int .i64 0,.slice none 0 0,.slice none 0 0] 30)) N d f) := hG.kp (Kp.below _ HBA.out)
 have HKN : Hid (Kp (fun t => t != 55) w (w.alloc (.cells #[.slice none 0 0,.slice none 0 0,.slice none 0 0,.int .i64 0,.int .i64 0,.int .i64 0,.slice none 0 0,.slice none 0 0,.int .i64 0,.slice none 0 0,.slice none 0 0] 30))) := Kp.below _ HBA.out
 have HBN : Hid (Below N w (w.alloc (.cells #[.slice none 0 0,.slice none 0 0,.slice none 0 0,.int .i64 0,.int .i64 0,.int .i64 0,.slice none 0 0,.slice none 0 0,.int .i64 0,.slice none 0 0,.slice none 0 0] 30))) := HBA.out.mono hN
 have hcap : f.n <= f.cap /\ f.cap <= maxLen := hG.ft.capm
 have hcF : d.funcs.length <= d.cF /\ d.cF <= maxLen := hG.funcs.capm
 have hfx : f.xs.length = n := by rw [hG.ft.len,hf]
 unfold maxLen at hcap hcF
 rw [hf] at hcap
 rw [hn] at hcF
 obtain ⟨hc1,hc2⟩ := hcap
 obtain ⟨hc3,hc4⟩ := hcF
 have HE : Hid (d.funcs.length = n /\ f.n = n /\ f.xs.length = n) := ⟨hn,hf,hfx⟩
 clear hD hD1 hG hn hf hfx HBA
 go_enter Tryz.func35,Tryz.ntmps35
 go_wp2
 go_quiet ((go_at_call 8; exact Calls.quiet_of_same (xbB _ _)))
 go_wp2
 have HDW : Hid (DB ((w.alloc (.cells #[.slice none 0 0,.slice none 0 0,.slice none 0 0,.int .i64 0,.int .i64 0,.int .i64 0,.slice none 0 0,.slice none 0 0,.int .i64 0,.slice none 0 0,.slice none 0 0] 30)).drewN nq) D d f) := HD1.out
 have HXW : Hid (X11 ((w.alloc (.cells #[.slice none 0 0,.slice none 0 0,.slice none 0 0,.int .i64 0,.int .i64 0,.int .i64 0,.slice none 0 0,.slice none 0 0,.int .i64 0,.slice none 0 0,.slice none 0 0] 30)).drewN nq) w.heap.size (.slice none 0 0) (.slice none 0 0) (.slice none 0 0) (.int .i64 0) (.int .i64 0) (.int .i64 0) (.slice none 0 0) (.slice none 0 0) (.int .i64 0) (.slice none 0 0) (.slice none 0 0)) := HXQ.out
 have HGW : Hid (DrG ((w.alloc (.cells #[.slice none 0 0,.slice none 0 0,.slice none 0 0,.int .i64 0,.int .i64 0,.int .i64 0,.slice none 0 0,.slice none 0 0,.int .i64 0,.slice none 0 0,.slice none 0 0] 30)).drewN nq) N d f) := HG1.out.kp ⟨Nat.le_refl _,fun _ _ _ _ _ _ => rfl⟩
 have HBW : Hid (Below N w ((w.alloc (.cells #[.slice none 0 0,.slice none 0 0,.slice none 0 0,.int .i64 0,.int .i64 0,.int .i64 0,.slice none 0 0,.slice none 0 0,.int .i64 0,.slice none 0 0,.slice none 0 0] 30)).drewN nq)) := below_drewN HBN.out nq
 have HKW : Hid (Kp (fun t => t != 55) w ((w.alloc (.cells #[.slice none 0 0,.slice none 0 0,.slice none 0 0,.int .i64 0,.int .i64 0,.int .i64 0,.slice none 0 0,.slice none 0 0,.int .i64 0,.slice none 0 0,.slice none 0 0] 30)).drewN nq)) := ⟨HKN.out.size,HKN.out.blk⟩
 clear HD1 HXQ HG1 HBN y2 y11 HKN
 generalize (w.alloc (.cells #[.slice none 0 0,.slice none 0 0,.slice none 0 0,.int .i64 0,.int .i64 0,.int .i64 0,.slice none 0 0,.slice none 0 0,.int .i64 0,.slice none 0 0,.slice none 0 0] 30)).drewN nq = W at HDW HXW HGW HBW HKW
 go_loopw [23] (fun iv wr => ∃ k : Nat,∃ L : List FunD,iv = .int .i64 (k : Int) /\ k <= n /\ Hid (L.length = n /\ L.map FunD.cod = d.funcs.map FunD.cod /\ (∀ j,j < k -> (L.map FunD.t)[j]? = f.xs[j]?)) /\ Hid (DB wr D d f) /\ Hid (DrG wr N { d with funcs := L } f) /\ Hid (X11 wr w.heap.size (.slice none 0 0) (.slice none 0 0) (.slice none 0 0) (.int .i64 0) (.int .i64 0) (.int .i64 0) (.slice none 0 0) (.slice none 0 0) (.int .i64 0) (.slice none 0 0) (.slice none 0 0)) /\ Hid (Below N w wr) /\ Hid (Kp (fun t => t != 55) w wr)) (fun iv _ => n - (intOf iv).toNat)
 case atStart => exact ⟨0,d.funcs,rfl,by omega,⟨HE.out.1,rfl,fun j hj => by omega⟩,HDW,HGW,HXW,HBW,HKW⟩
 case round =>
  obtain ⟨k,L,rfl,hk,HLL,HDr,HGr,HXr,HBr,HKr⟩ := hrel
  clear HDW HXW HGW HBW HKW
  by_cases hlt2 : k < n
  ·have z2 := HDr.out.cell 2
   unfold drC at z2
   simp only [List.getElem?_toArray,List.getElem?_cons_succ,List.getElem?_cons_zero] at z2
   rw [HE.out.1] at z2
   obtain ⟨b,bcur,hfo,_,_⟩ : ∃ b cur,f.o = some ⟨b,0,none⟩ /\ N <= b /\ wr.heap[b]? = some (.cells cur 3 (0,0)) := by
    rcases HGr.out.ft.typed with h0 | h
    ·have := HE.out.2.1; omega
    ·exact h
   obtain ⟨g,gcur,hgo,hNg,hgb⟩ : ∃ g cur,d.oF = some ⟨g,0,none⟩ /\ N <= g /\ wr.heap[g]? = some (.cells cur 55 (0,0)) := by
    rcases HGr.out.funcs.typed with h0 | h
    ·have : L.length = n := HLL.out.1
     have h0 : L.length = 0 := h0
     omega
    ·exact h
   have hkx : k < f.xs.length := by have := HE.out.2.2; omega
   have hkL : k < L.length := by have := HLL.out.1; omega
   have hct : wr.cell? ⟨b,k,none⟩ = some (.int .i64 f.xs[k]) := by
    have ho := HGr.out.ft.own
    rw [hfo] at ho
    have h1 := ho.cellAt (k * 1) (by have := HE.out.2.1; omega)
    rw [Nat.mul_one] at h1
    rw [h1]
    have h2 := xiG (fun x : Int => [Value.int .i64 x]) 1 (fun _ => rfl) f.xs k 0 hkx (by omega)
    rw [Nat.mul_one,Nat.add_zero] at h2
    rw [h2]
    rfl
   have hcf : wr.cell? ⟨g,k * 3,none⟩ = some (.int .i64 (L[k]).t) := by
    have ho : wr.ownsRow N 55 3 (.slice d.oF L.length d.cF) L.length (L.flatMap FunD.cells) := HGr.out.funcs.own
    rw [hgo] at ho
    have h1 := ho.cellAt (k * 3) (by omega)
    rw [h1]
    have h2 := xiG FunD.cells 3 (fun _ => rfl) L k 0 hkL (by omega)
    rw [Nat.add_zero] at h2
    rw [h2]
    rfl
   have hff : wr.frozen? ⟨g,k * 3,none⟩ = false := by simp [World.frozen?,hgb]
   have hk0 : (0 : Int) <= (k : Int) := by omega
   have hk1 : (k : Int) < (n : Int) := by omega
   have hin : inI f.xs[k] := by
    have := HGr.out.ft.ok f.xs[k] (List.getElem_mem hkx)
    exact bounds_i64 this
   obtain ⟨x,hx⟩ : ∃ x,x = f.xs[k] := ⟨_,rfl⟩
   rw [<- hx] at hct hin
   have HIN : Hid (inI x) := hin
   have HX : Hid (f.xs[k]? = some x) := by unfold Hid; rw [hx,List.getElem?_eq_getElem hkx]
   have hgD : g ≠ D := by
    intro e
    have := HDr.out
    unfold DB at this
    rw [<- e,hgb] at this
    simp at this
   have hgQ : g ≠ w.heap.size := by
    intro e
    have := HXr.out
    unfold X11 at this
    rw [<- e,hgb] at this
    simp at this
   have hc : Chg g wr (wr.setCell ⟨g,k * 3,none⟩ (.int .i64 x)) := Chg.set _ _ _ _
   have HD2 : Hid (DB (wr.setCell ⟨g,k * 3,none⟩ (.int .i64 x)) D d f) := HDr.out.chg hc hgD.symm
   have HX2 := kZz (HXr.out.chg hc hgQ.symm)
   have HB2 : Hid (Below N w (wr.setCell ⟨g,k * 3,none⟩ (.int .i64 x))) := HBr.out.setCell (p := ⟨g,k * 3,none⟩) hNg _
   have q : Kp (fun t => t != 55) wr (wr.setCell ⟨g,k * 3,none⟩ (.int .i64 x)) := Kp.chg hgb hc _ (by decide)
   have HK2 : Hid (Kp (fun t => t != 55) w (wr.setCell ⟨g,k * 3,none⟩ (.int .i64 x))) := HKr.out.trans q
   have HG2 : Hid (DrG (wr.setCell ⟨g,k * 3,none⟩ (.int .i64 x)) N { d with funcs := L.set k { L[k] with t := x } } f) := by
    have h := HGr.out
    refine ⟨h.types.kp q (by decide) (fun _ hd => hd.kp q (by decide)),h.imports.kp q (by decide) (fun _ hd => hd),?_,h.globals.kp q (by decide) (fun _ hd => hd),h.exports.kp q (by decide) (fun _ hd => hd),h.elems.kp q (by decide) (fun _ hd => hd.kp q (by decide)),h.data.kp q (by decide) (fun _ hd => hd),h.ft.kp q (by decide) (fun _ hd => hd),h.table,h.pages,h.most,h.start⟩
    have hL : LR wr N 55 3 FunD.cells FunG d.oF L.length d.cF L := h.funcs
    rw [hgo] at hL
    have := hL.setT hkL HIN.out
    show LR _ N 55 3 FunD.cells FunG d.oF (L.set k _).length d.cF _
    rw [hgo,List.length_set]
    exact this
   have HL2 : Hid ((L.set k { L[k] with t := x }).length = n /\ (L.set k { L[k] with t := x }).map FunD.cod = d.funcs.map FunD.cod /\ (∀ j,j < k + 1 -> ((L.set k { L[k] with t := x }).map FunD.t)[j]? = f.xs[j]?)) := by
    refine ⟨by rw [List.length_set]; exact HLL.out.1,?_,fun j hj => ?_⟩
    ·rw [List.map_set,<- HLL.out.2.1]
     apply List.ext_getElem?
     intro i
     rw [List.getElem?_set]
     split
     ·rename_i e
      subst e
      rw [List.length_map,if_pos hkL,List.getElem?_map,List.getElem?_eq_getElem hkL]
      rfl
     ·rfl
    ·rw [List.map_set,List.getElem?_set]
     split
     ·rename_i e
      subst e
      rw [List.length_map,if_pos hkL]
      exact HX.out.symm
     ·exact HLL.out.2.2 j (by omega)
   clear hc q hin hx HGr HXr HBr HDr HLL hkx hgb HX
   rw [hgo] at z2
   rw [hfo]
   go_wp2
   go_roundw
   case rel => exact ⟨k + 1,_,by go_num,by omega,HL2,HD2,HG2,HX2,HB2,HK2⟩
   case measure => simp [intOf]; omega
  ·have hkn : k = n := by omega
   subst hkn
   obtain ⟨C,hC⟩ : ∃ C : Array Value,C = mcA { d with funcs := L } := ⟨_,rfl⟩
   have HCD : Hid (wr.rangeAt D 0 C.toList) := by
    intro j v hj
    rw [Nat.zero_add,HDr.out.cell j]
    rw [hC] at hj
    have e : (mcA { d with funcs := L }).toList = (drC d f).toList.take 11 := by
     unfold mcA drC
     dsimp only
     rw [HLL.out.1,HE.out.1]
     rfl
    rw [e] at hj
    rw [<- Array.getElem?_toList]
    rcases Nat.lt_or_ge j 11 with h | h
    ·rw [List.getElem?_take_of_lt h] at hj; exact hj
    ·rw [List.getElem?_eq_none (by rw [List.length_take]; omega)] at hj; cases hj
   have HCS : Hid (C.size = 11) := by rw [hC]; rfl
   have HC1 : Hid (C.all (·.oneCell') = true) := by unfold Hid; rw [hC]; simp [mcA,Value.oneCell']
   have HI30 : Hid ((Tryz.prog.info? 30).map (·.size) = some C.size) := by unfold Hid; rw [HCS.out]; exact xdO
   have HI31 : Hid ((Tryz.prog.info? 30).map (·.size) = some C.toList.length) := by unfold Hid; rw [Array.length_toList,HCS.out]; exact xdO
   have HS : Hid ((#[.slice none 0 0,.slice none 0 0,.slice none 0 0,.int .i64 0,.int .i64 0,.int .i64 0,.slice none 0 0,.slice none 0 0,.int .i64 0,.slice none 0 0,.slice none 0 0] : Array Value).size = C.size) := by unfold Hid; rw [HCS.out]; rfl
   have HC : Hid (C = mcA { d with funcs := L }) := hC
   clear hC
   go_wp2_with (first | (refine wpList_load_mid rfl 30 (.tmp 40) rfl D 0 rfl C.toList _ HCD.out Tryz.underlying30 rfl HI31.out ?_) | (refine wpList_store_row rfl 30 (.tmp 2) (.tmp 41) rfl w.heap.size C rfl rfl 30 _ HXr.out HI30.out HS.out HC1.out ?_))
   have hrow : (wr.setRow w.heap.size C).heap[w.heap.size]? = some (.cells C 30 (0,0)) := setRow_heap wr w.heap.size _ C _ _ HXr.out
   have hcq : Chg w.heap.size wr (wr.setRow w.heap.size C) := ⟨rfl,rfl,rfl,by simp [World.setRow],fun j _ hj => setRow_other wr w.heap.size j C hj⟩
   have q : Kp (fun t => t != 30) wr (wr.setRow w.heap.size C) := Kp.chg HXr.out hcq _ (by decide)
   refine bodyPost_ret (results_cell_row rfl _ _ w.heap.size 30 C (0,0) _ rfl hrow Tryz.underlying30 rfl HI30.out) rfl ?_
   have h := HGr.out
   refine ⟨{ d with funcs := L },C,HC,rfl,⟨h.types.kp q (by decide) (fun _ hd => hd.kp q (by decide)),h.imports.kp q (by decide) (fun _ hd => hd),h.funcs.kp q (by decide) (fun _ hd => hd.kp q (by decide) (by decide) (by decide)),h.globals.kp q (by decide) (fun _ hd => hd),h.exports.kp q (by decide) (fun _ hd => hd),h.elems.kp q (by decide) (fun _ hd => hd.kp q (by decide)),h.data.kp q (by decide) (fun _ hd => hd),LR.nil _ _ _ _ _ _,h.table,h.pages,h.most,h.start⟩,?_,HBr.out.trans (hcq.below hN (by have := HBr.out.size; omega)),⟨Nat.le_trans HKr.out.size hcq.size,fun j cur t ff hj ht => by rw [hcq.block j (Nat.lt_of_lt_of_le (xaU hj) HKr.out.size) (by have := xaU hj; omega)]; exact HKr.out.blk j cur t ff hj ht⟩⟩
   have e1 : L.map FunD.t = f.xs := by
    apply List.ext_getElem?
    intro j
    rcases Nat.lt_or_ge j k with h | h
    ·exact HLL.out.2.2 j h
    ·rw [List.getElem?_eq_none (by rw [List.length_map,HLL.out.1]; exact h),List.getElem?_eq_none (by rw [HE.out.2.2]; exact h)]
   have e2 : L.map FunD.cod = d.funcs.map FunD.cod := HLL.out.2.1
   unfold ModD.val drV
   dsimp only
   rw [e1,e2]
end Go.Proofs.YtmmjgdaamkdncaaGreatDoor
