import Derived.Test.YtmmjgdaamkdncaaGreatDoorARG
import Derived.Test.YtmmjgdaamkdncaaGreatDoorARH
import Derived.Test.YtmmjgdaamkdncaaGreatDoorARI
import Derived.Test.YtmmjgdaamkdncaaGreatDoorARJ
import Derived.Test.YtmmjgdaamkdncaaGreatDoorARK
import Derived.Test.YtmmjgdaamkdncaaGreatDoorAQE
namespace Go.Proofs.YtmmjgdaamkdncaaGreatDoor
set_option maxHeartbeats 4000000
set_option maxRecDepth 1000000
open Go.RowKit
set_option linter.unusedVariables false
def xcD (d : ModD) (K : List FunD) : DrV := ⟨d.types.map SigD.val,d.imports.map NamD.val,d.funcs.map FunD.t,d.table,d.pages,d.most,d.globals.map GloD.val,d.exports.map NamD.val,d.start,d.elems.map EleD.val,K.map FunD.cod,d.data.map DatD.val⟩
structure ykV (last : Nat) (d : ModD) (o : Option Addr) (cap : Nat) (K : List FunD) : Prop where
 t1 : last < 1 -> d.oT = none /\ d.cT = 0 /\ d.types = []
 t2 : last < 2 -> d.oI = none /\ d.cI = 0 /\ d.imports = []
 t3 : last < 3 -> d.oF = none /\ d.cF = 0 /\ d.funcs = []
 t4 : last < 4 -> d.table = 0
 t5 : last < 5 -> d.pages = 0 /\ d.most = 0
 t6 : last < 6 -> d.oG = none /\ d.cG = 0 /\ d.globals = []
 t7 : last < 7 -> d.oE = none /\ d.cE = 0 /\ d.exports = []
 t9 : last < 9 -> d.oL = none /\ d.cL = 0 /\ d.elems = []
 t10 : last < 10 -> o = none /\ cap = 0 /\ K = []
 t11 : last < 11 -> d.oD = none /\ d.cD = 0 /\ d.data = []
def yfG (d : ModD) (o : Option Addr) (K : List FunD) : Prop := ∀ g g' : Addr,d.oF = some g -> o = some g' -> 0 < d.funcs.length -> 0 < K.length -> g.block ≠ g'.block
def DSt (w : World) (N M C last : Nat) (v : DrV) : Prop := ∃ (d : ModD) (o : Option Addr) (cap : Nat) (K : List FunD),MX w M (mcA d) /\ CB w C (.slice o K.length cap) /\ ModG w N d /\ LR w N 55 3 FunD.cells FunG o K.length cap K /\ xcD d K = v /\ ykV last d o cap K /\ yfG d o K
def JSt (w : World) (M C : Nat) : Prop := ∃ (A : Array Value) (o o' : Option Addr) (n n' c c' : Nat),MX w M A /\ CB w C (.slice o n c) /\ A[2]? = some (.slice o' n' c')
theorem DSt.junk {w : World} {N M C last : Nat} {v : DrV} (h : DSt w N M C last v) : JSt w M C := by
 obtain ⟨d,o,cap,K,h1,h2,_⟩ := h
 exact ⟨_,o,d.oF,K.length,d.funcs.length,cap,d.cF,h1,h2,rfl⟩
theorem ChgA.wide {A A' : List Nat} {w w' : World} (h : ChgA A w w') (hs : ∀ k ∈ A,k ∈ A') : ChgA A' w w' := ⟨h.os,h.tape,h.output,h.size,fun k hk ha => h.block k hk fun q => ha (hs k q)⟩
def keepS (t : TypeId) : Bool := t != 45 && t != 30 && t != 24
theorem xkK {w w' : World} {P M C : Nat} {l : List Int} {n a : Int} {A : Array Value} {v : Value} (h : ChgA [P,M,C] w w') (hP : CL w P l n a) (hM : MX w M A) (hC : CB w C v) : Kp keepS w w' :=
 Kp.chgA h keepS fun k hk cur t f hb => by
  simp only [List.mem_cons,List.not_mem_nil,or_false] at hk
  rcases hk with rfl | rfl | rfl
  ·obtain ⟨s,_,_,hc⟩ := hP
   unfold CS at hc
   rw [hc] at hb
   simp only [Option.some.injEq,Obj.cells.injEq] at hb
   rw [<- hb.2.1]
   decide
  ·unfold MX at hM
   rw [hM] at hb
   simp only [Option.some.injEq,Obj.cells.injEq] at hb
   rw [<- hb.2.1]
   decide
  ·unfold CB at hC
   rw [hC] at hb
   simp only [Option.some.injEq,Obj.cells.injEq] at hb
   rw [<- hb.2.1]
   decide
theorem LR.base {D : Type} {w : World} {B N : Nat} {t : TypeId} {k : Nat} {cs : D -> List Value} {ok : World -> D -> Prop} {o : Option Addr} {n cap : Nat} {L : List D} (h : LR w B t k cs ok o n cap L) (hN : N <= B) : LR w N t k cs ok o n cap L := ⟨xbY h.own hN,h.len,h.ok⟩
theorem MX.other {w : World} {M C : Nat} {A : Array Value} {v : Value} (h : MX w M A) (hC : CB w C v) : C ≠ M := by
 intro e
 unfold MX at h
 unfold CB at hC
 rw [e,h] at hC
 simp at hC
section
variable (P M C N last : Nat) (d : ModD) (o : Option Addr) (cap : Nat) (K : List FunD) (l : List Int) (n : Int) (w : World) (h : CL w P l n 0) (hM : MX w M (mcA d)) (hC : CB w C (.slice o K.length cap)) (hG : ModG w N d) (hK : LR w N 55 3 FunD.cells FunG o K.length cap K) (hF : ykV last d o cap K) (hR : yfG d o K) (hN : N <= w.heap.size)
include h hM hC hG hK hF hR hN
theorem ygJ (hlast : last < 1) : Calls Tryz.prog 16 #[.pointer (some ⟨P,0,none⟩),.int .i64 1,.pointer (some ⟨M,0,none⟩),.pointer (some ⟨C,0,none⟩)] w fun r w' => r = .returned (.tuple #[]) /\ CL w' P (xaF 1 (xcD d K) l 0).2.1 n (xaF 1 (xcD d K) l 0).2.2 /\ ChgA [P,M,C] w w' /\ JSt w' M C /\ ((xaF 1 (xcD d K) l 0).2.2 = 0 -> DSt w' N M C 1 (xaF 1 (xcD d K) l 0).1) := by
 have hCP : C ≠ P := h.apart hC (by decide)
 have hCM : C ≠ M := hM.other hC
 have hMP : M ≠ P := h.apart hM (by decide)
 have _hR := hR
 obtain ⟨e1,e2,e3⟩ := hF.t1 hlast
 have hA : (mcA d)[0]? = some (.slice none 0 0) := by
  show some (Value.slice d.oT d.types.length d.cT) = _
  rw [e1,e2,e3]
  rfl
 refine (ylV P M C (mcA d) l n w h hM hA).mono ?_
 rintro r w' ⟨rfl,h1,c1,o1,j1,p1,hX,hL⟩
 have c3 := c1.wide (A' := [P,M,C]) (by simp)
 have q := xkK c3 h hM hC
 have hC' : CB w' C (.slice o K.length cap) := by unfold CB at hC ⊢; rw [c1.block C (xaU hC) (by simp; exact ⟨hCP,hCM⟩),hC]
 refine ⟨rfl,h1,c3,⟨_,o,d.oF,K.length,d.funcs.length,cap,d.cF,hX,hC',rfl⟩,fun h0 => ?_⟩
 obtain ⟨L,hm,hr⟩ := hL h0
 have hl := hr.len
 subst hl
 have hg := hG.kpS q (by decide)
 refine ⟨{ d with oT := o1,cT := p1,types := L },o,cap,K,hX,hC',⟨hr.base hN,hg.imports,hg.funcs,hg.globals,hg.exports,hg.elems,hg.data,LR.nil _ _ _ _ _ _,hg.table,hg.pages,hg.most,hg.start⟩,hK.kp q (by decide) (fun d hd => hd.kp q (by decide) (by decide) (by decide)),?_,⟨fun q => absurd q (by omega),fun q => hF.t2 (by omega),fun q => hF.t3 (by omega),fun q => hF.t4 (by omega),fun q => hF.t5 (by omega),fun q => hF.t6 (by omega),fun q => hF.t7 (by omega),fun q => hF.t9 (by omega),fun q => hF.t10 (by omega),fun q => hF.t11 (by omega)⟩,hR⟩
 unfold xcD
 (try dsimp only)
 rw [hm]
 rfl
theorem ygK (hlast : last < 2) : Calls Tryz.prog 16 #[.pointer (some ⟨P,0,none⟩),.int .i64 2,.pointer (some ⟨M,0,none⟩),.pointer (some ⟨C,0,none⟩)] w fun r w' => r = .returned (.tuple #[]) /\ CL w' P (xaF 2 (xcD d K) l 0).2.1 n (xaF 2 (xcD d K) l 0).2.2 /\ ChgA [P,M,C] w w' /\ JSt w' M C /\ ((xaF 2 (xcD d K) l 0).2.2 = 0 -> DSt w' N M C 2 (xaF 2 (xcD d K) l 0).1) := by
 have hCP : C ≠ P := h.apart hC (by decide)
 have hCM : C ≠ M := hM.other hC
 have hMP : M ≠ P := h.apart hM (by decide)
 have _hR := hR
 obtain ⟨e1,e2,e3⟩ := hF.t2 hlast
 have hA : (mcA d)[1]? = some (.slice none 0 0) := by
  show some (Value.slice d.oI d.imports.length d.cI) = _
  rw [e1,e2,e3]
  rfl
 refine (ylW P M C (mcA d) l n w h hM hA).mono ?_
 rintro r w' ⟨rfl,h1,c1,o1,j1,p1,hX,hL⟩
 have c3 := c1.wide (A' := [P,M,C]) (by simp)
 have q := xkK c3 h hM hC
 have hC' : CB w' C (.slice o K.length cap) := by unfold CB at hC ⊢; rw [c1.block C (xaU hC) (by simp; exact ⟨hCP,hCM⟩),hC]
 refine ⟨rfl,h1,c3,⟨_,o,d.oF,K.length,d.funcs.length,cap,d.cF,hX,hC',rfl⟩,fun h0 => ?_⟩
 obtain ⟨L,hm,hr⟩ := hL h0
 have hl := hr.len
 subst hl
 have hg := hG.kpS q (by decide)
 refine ⟨{ d with oI := o1,cI := p1,imports := L },o,cap,K,hX,hC',⟨hg.types,hr.base hN,hg.funcs,hg.globals,hg.exports,hg.elems,hg.data,LR.nil _ _ _ _ _ _,hg.table,hg.pages,hg.most,hg.start⟩,hK.kp q (by decide) (fun d hd => hd.kp q (by decide) (by decide) (by decide)),?_,⟨fun q => absurd q (by omega),fun q => absurd q (by omega),fun q => hF.t3 (by omega),fun q => hF.t4 (by omega),fun q => hF.t5 (by omega),fun q => hF.t6 (by omega),fun q => hF.t7 (by omega),fun q => hF.t9 (by omega),fun q => hF.t10 (by omega),fun q => hF.t11 (by omega)⟩,hR⟩
 unfold xcD
 (try dsimp only)
 rw [hm]
 rfl
theorem ygL (hlast : last < 3) : Calls Tryz.prog 16 #[.pointer (some ⟨P,0,none⟩),.int .i64 3,.pointer (some ⟨M,0,none⟩),.pointer (some ⟨C,0,none⟩)] w fun r w' => r = .returned (.tuple #[]) /\ CL w' P (xaF 3 (xcD d K) l 0).2.1 n (xaF 3 (xcD d K) l 0).2.2 /\ ChgA [P,M,C] w w' /\ JSt w' M C /\ ((xaF 3 (xcD d K) l 0).2.2 = 0 -> DSt w' N M C 3 (xaF 3 (xcD d K) l 0).1) := by
 have hCP : C ≠ P := h.apart hC (by decide)
 have hCM : C ≠ M := hM.other hC
 have hMP : M ≠ P := h.apart hM (by decide)
 have _hR := hR
 obtain ⟨e1,e2,e3⟩ := hF.t3 hlast
 have hA : (mcA d)[2]? = some (.slice none 0 0) := by
  show some (Value.slice d.oF d.funcs.length d.cF) = _
  rw [e1,e2,e3]
  rfl
 refine (ylX P M C (mcA d) l n w h hM hA).mono ?_
 rintro r w' ⟨rfl,h1,c1,o1,j1,p1,hX,hL⟩
 have c3 := c1.wide (A' := [P,M,C]) (by simp)
 have q := xkK c3 h hM hC
 have hC' : CB w' C (.slice o K.length cap) := by unfold CB at hC ⊢; rw [c1.block C (xaU hC) (by simp; exact ⟨hCP,hCM⟩),hC]
 refine ⟨rfl,h1,c3,⟨_,o,o1,K.length,j1,cap,p1,hX,hC',rfl⟩,fun h0 => ?_⟩
 obtain ⟨L,hm,hr⟩ := hL h0
 have hl := hr.len
 subst hl
 have hg := hG.kpS q (by decide)
 refine ⟨{ d with oF := o1,cF := p1,funcs := L },o,cap,K,hX,hC',⟨hg.types,hg.imports,hr.base hN,hg.globals,hg.exports,hg.elems,hg.data,LR.nil _ _ _ _ _ _,hg.table,hg.pages,hg.most,hg.start⟩,hK.kp q (by decide) (fun d hd => hd.kp q (by decide) (by decide) (by decide)),?_,⟨fun q => absurd q (by omega),fun q => absurd q (by omega),fun q => absurd q (by omega),fun q => hF.t4 (by omega),fun q => hF.t5 (by omega),fun q => hF.t6 (by omega),fun q => hF.t7 (by omega),fun q => hF.t9 (by omega),fun q => hF.t10 (by omega),fun q => hF.t11 (by omega)⟩,fun g g2 e1 e2 h3 h4 => absurd h4 (by rw [(hF.t10 (by omega)).2.2]; simp)⟩
 unfold xcD
 (try dsimp only)
 rw [hm]
 rfl
theorem ygM (hlast : last < 4) : Calls Tryz.prog 16 #[.pointer (some ⟨P,0,none⟩),.int .i64 4,.pointer (some ⟨M,0,none⟩),.pointer (some ⟨C,0,none⟩)] w fun r w' => r = .returned (.tuple #[]) /\ CL w' P (xaF 4 (xcD d K) l 0).2.1 n (xaF 4 (xcD d K) l 0).2.2 /\ ChgA [P,M,C] w w' /\ JSt w' M C /\ ((xaF 4 (xcD d K) l 0).2.2 = 0 -> DSt w' N M C 4 (xaF 4 (xcD d K) l 0).1) := by
 have hCP : C ≠ P := h.apart hC (by decide)
 have hCM : C ≠ M := hM.other hC
 have hMP : M ≠ P := h.apart hM (by decide)
 have e1 := hF.t4 hlast
 have hA : (mcA d)[3]? = some (.int .i64 0) := by
  show some (Value.int .i64 d.table) = _
  rw [e1]
 refine (ylY P M C (mcA d) l n w h hM hA).mono ?_
 rintro r w' ⟨rfl,h1,c1,x,hX,hx,hL⟩
 have c3 := c1.wide (A' := [P,M,C]) (by simp)
 have q := xkK c3 h hM hC
 have hC' : CB w' C (.slice o K.length cap) := by unfold CB at hC ⊢; rw [c1.block C (xaU hC) (by simp; exact ⟨hCP,hCM⟩),hC]
 refine ⟨rfl,h1,c3,⟨_,o,d.oF,K.length,d.funcs.length,cap,d.cF,hX,hC',rfl⟩,fun h0 => ?_⟩
 have hg := hG.kpS q (by decide)
 have _hN := hN
 refine ⟨{ d with table := x },o,cap,K,hX,hC',⟨hg.types,hg.imports,hg.funcs,hg.globals,hg.exports,hg.elems,hg.data,LR.nil _ _ _ _ _ _,hx,hg.pages,hg.most,hg.start⟩,hK.kp q (by decide) (fun d hd => hd.kp q (by decide) (by decide) (by decide)),?_,⟨fun q => absurd q (by omega),fun q => absurd q (by omega),fun q => absurd q (by omega),fun q => absurd q (by omega),fun q => hF.t5 (by omega),fun q => hF.t6 (by omega),fun q => hF.t7 (by omega),fun q => hF.t9 (by omega),fun q => hF.t10 (by omega),fun q => hF.t11 (by omega)⟩,hR⟩
 unfold xcD
 dsimp only
 rw [hL h0]
 rfl
theorem ygN (hlast : last < 5) : Calls Tryz.prog 16 #[.pointer (some ⟨P,0,none⟩),.int .i64 5,.pointer (some ⟨M,0,none⟩),.pointer (some ⟨C,0,none⟩)] w fun r w' => r = .returned (.tuple #[]) /\ CL w' P (xaF 5 (xcD d K) l 0).2.1 n (xaF 5 (xcD d K) l 0).2.2 /\ ChgA [P,M,C] w w' /\ JSt w' M C /\ ((xaF 5 (xcD d K) l 0).2.2 = 0 -> DSt w' N M C 5 (xaF 5 (xcD d K) l 0).1) := by
 have hCP : C ≠ P := h.apart hC (by decide)
 have hCM : C ≠ M := hM.other hC
 have hMP : M ≠ P := h.apart hM (by decide)
 obtain ⟨e1,e2⟩ := hF.t5 hlast
 have hA4 : (mcA d)[4]? = some (.int .i64 0) := by
  show some (Value.int .i64 d.pages) = _
  rw [e1]
 have hA5 : (mcA d)[5]? = some (.int .i64 0) := by
  show some (Value.int .i64 d.most) = _
  rw [e2]
 refine (ylZ P M C (mcA d) l n w h hM hA4 hA5).mono ?_
 rintro r w' ⟨rfl,h1,c1,x,y,hX,hx,hy,hL⟩
 have c3 := c1.wide (A' := [P,M,C]) (by simp)
 have q := xkK c3 h hM hC
 have hC' : CB w' C (.slice o K.length cap) := by unfold CB at hC ⊢; rw [c1.block C (xaU hC) (by simp; exact ⟨hCP,hCM⟩),hC]
 refine ⟨rfl,h1,c3,⟨_,o,d.oF,K.length,d.funcs.length,cap,d.cF,hX,hC',rfl⟩,fun h0 => ?_⟩
 have hg := hG.kpS q (by decide)
 have _hN := hN
 refine ⟨{ d with pages := x,most := y },o,cap,K,hX,hC',⟨hg.types,hg.imports,hg.funcs,hg.globals,hg.exports,hg.elems,hg.data,LR.nil _ _ _ _ _ _,hg.table,hx,hy,hg.start⟩,hK.kp q (by decide) (fun d hd => hd.kp q (by decide) (by decide) (by decide)),?_,⟨fun q => absurd q (by omega),fun q => absurd q (by omega),fun q => absurd q (by omega),fun q => absurd q (by omega),fun q => absurd q (by omega),fun q => hF.t6 (by omega),fun q => hF.t7 (by omega),fun q => hF.t9 (by omega),fun q => hF.t10 (by omega),fun q => hF.t11 (by omega)⟩,hR⟩
 unfold xcD
 dsimp only
 have e := hL h0
 have ex : x = (xvB l 0).1.1 := by rw [<- e]
 have ey : y = (xvB l 0).1.2 := by rw [<- e]
 rw [ex,ey]
 rfl
theorem ygO (hlast : last < 6) : Calls Tryz.prog 16 #[.pointer (some ⟨P,0,none⟩),.int .i64 6,.pointer (some ⟨M,0,none⟩),.pointer (some ⟨C,0,none⟩)] w fun r w' => r = .returned (.tuple #[]) /\ CL w' P (xaF 6 (xcD d K) l 0).2.1 n (xaF 6 (xcD d K) l 0).2.2 /\ ChgA [P,M,C] w w' /\ JSt w' M C /\ ((xaF 6 (xcD d K) l 0).2.2 = 0 -> DSt w' N M C 6 (xaF 6 (xcD d K) l 0).1) := by
 have hCP : C ≠ P := h.apart hC (by decide)
 have hCM : C ≠ M := hM.other hC
 have hMP : M ≠ P := h.apart hM (by decide)
 have _hR := hR
 obtain ⟨e1,e2,e3⟩ := hF.t6 hlast
 have hA : (mcA d)[6]? = some (.slice none 0 0) := by
  show some (Value.slice d.oG d.globals.length d.cG) = _
  rw [e1,e2,e3]
  rfl
 refine (ykA P M C (mcA d) l n w h hM hA).mono ?_
 rintro r w' ⟨rfl,h1,c1,o1,j1,p1,hX,hL⟩
 have c3 := c1.wide (A' := [P,M,C]) (by simp)
 have q := xkK c3 h hM hC
 have hC' : CB w' C (.slice o K.length cap) := by unfold CB at hC ⊢; rw [c1.block C (xaU hC) (by simp; exact ⟨hCP,hCM⟩),hC]
 refine ⟨rfl,h1,c3,⟨_,o,d.oF,K.length,d.funcs.length,cap,d.cF,hX,hC',rfl⟩,fun h0 => ?_⟩
 obtain ⟨L,hm,hr⟩ := hL h0
 have hl := hr.len
 subst hl
 have hg := hG.kpS q (by decide)
 refine ⟨{ d with oG := o1,cG := p1,globals := L },o,cap,K,hX,hC',⟨hg.types,hg.imports,hg.funcs,hr.base hN,hg.exports,hg.elems,hg.data,LR.nil _ _ _ _ _ _,hg.table,hg.pages,hg.most,hg.start⟩,hK.kp q (by decide) (fun d hd => hd.kp q (by decide) (by decide) (by decide)),?_,⟨fun q => absurd q (by omega),fun q => absurd q (by omega),fun q => absurd q (by omega),fun q => absurd q (by omega),fun q => absurd q (by omega),fun q => absurd q (by omega),fun q => hF.t7 (by omega),fun q => hF.t9 (by omega),fun q => hF.t10 (by omega),fun q => hF.t11 (by omega)⟩,hR⟩
 unfold xcD
 (try dsimp only)
 rw [hm]
 rfl
theorem ygP (hlast : last < 7) : Calls Tryz.prog 16 #[.pointer (some ⟨P,0,none⟩),.int .i64 7,.pointer (some ⟨M,0,none⟩),.pointer (some ⟨C,0,none⟩)] w fun r w' => r = .returned (.tuple #[]) /\ CL w' P (xaF 7 (xcD d K) l 0).2.1 n (xaF 7 (xcD d K) l 0).2.2 /\ ChgA [P,M,C] w w' /\ JSt w' M C /\ ((xaF 7 (xcD d K) l 0).2.2 = 0 -> DSt w' N M C 7 (xaF 7 (xcD d K) l 0).1) := by
 have hCP : C ≠ P := h.apart hC (by decide)
 have hCM : C ≠ M := hM.other hC
 have hMP : M ≠ P := h.apart hM (by decide)
 have _hR := hR
 obtain ⟨e1,e2,e3⟩ := hF.t7 hlast
 have hA : (mcA d)[7]? = some (.slice none 0 0) := by
  show some (Value.slice d.oE d.exports.length d.cE) = _
  rw [e1,e2,e3]
  rfl
 refine (ykB P M C (mcA d) l n w h hM hA).mono ?_
 rintro r w' ⟨rfl,h1,c1,o1,j1,p1,hX,hL⟩
 have c3 := c1.wide (A' := [P,M,C]) (by simp)
 have q := xkK c3 h hM hC
 have hC' : CB w' C (.slice o K.length cap) := by unfold CB at hC ⊢; rw [c1.block C (xaU hC) (by simp; exact ⟨hCP,hCM⟩),hC]
 refine ⟨rfl,h1,c3,⟨_,o,d.oF,K.length,d.funcs.length,cap,d.cF,hX,hC',rfl⟩,fun h0 => ?_⟩
 obtain ⟨L,hm,hr⟩ := hL h0
 have hl := hr.len
 subst hl
 have hg := hG.kpS q (by decide)
 refine ⟨{ d with oE := o1,cE := p1,exports := L },o,cap,K,hX,hC',⟨hg.types,hg.imports,hg.funcs,hg.globals,hr.base hN,hg.elems,hg.data,LR.nil _ _ _ _ _ _,hg.table,hg.pages,hg.most,hg.start⟩,hK.kp q (by decide) (fun d hd => hd.kp q (by decide) (by decide) (by decide)),?_,⟨fun q => absurd q (by omega),fun q => absurd q (by omega),fun q => absurd q (by omega),fun q => absurd q (by omega),fun q => absurd q (by omega),fun q => absurd q (by omega),fun q => absurd q (by omega),fun q => hF.t9 (by omega),fun q => hF.t10 (by omega),fun q => hF.t11 (by omega)⟩,hR⟩
 unfold xcD
 (try dsimp only)
 rw [hm]
 rfl
theorem ygQ (hlast : last < 8) : Calls Tryz.prog 16 #[.pointer (some ⟨P,0,none⟩),.int .i64 8,.pointer (some ⟨M,0,none⟩),.pointer (some ⟨C,0,none⟩)] w fun r w' => r = .returned (.tuple #[]) /\ CL w' P (xaF 8 (xcD d K) l 0).2.1 n (xaF 8 (xcD d K) l 0).2.2 /\ ChgA [P,M,C] w w' /\ JSt w' M C /\ ((xaF 8 (xcD d K) l 0).2.2 = 0 -> DSt w' N M C 8 (xaF 8 (xcD d K) l 0).1) := by
 have hCP : C ≠ P := h.apart hC (by decide)
 have hCM : C ≠ M := hM.other hC
 have hMP : M ≠ P := h.apart hM (by decide)
 have hnn := xcB l 0 h.byte
 refine (ykC P M C (mcA d) l n w h hM (.int .i64 d.start) rfl).mono ?_
 rintro r w' ⟨rfl,h1,c1,hX⟩
 have hx : inI (xgI l 0).1 := by
  unfold xgI
  exact ⟨by dsimp only; omega,by dsimp only; omega⟩
 have c3 := c1.wide (A' := [P,M,C]) (by simp)
 have q := xkK c3 h hM hC
 have hC' : CB w' C (.slice o K.length cap) := by unfold CB at hC ⊢; rw [c1.block C (xaU hC) (by simp; exact ⟨hCP,hCM⟩),hC]
 refine ⟨rfl,h1,c3,⟨_,o,d.oF,K.length,d.funcs.length,cap,d.cF,hX,hC',rfl⟩,fun h0 => ?_⟩
 have hg := hG.kpS q (by decide)
 have _hN := hN
 refine ⟨{ d with start := (xgI l 0).1 },o,cap,K,hX,hC',⟨hg.types,hg.imports,hg.funcs,hg.globals,hg.exports,hg.elems,hg.data,LR.nil _ _ _ _ _ _,hg.table,hg.pages,hg.most,hx⟩,hK.kp q (by decide) (fun d hd => hd.kp q (by decide) (by decide) (by decide)),?_,⟨fun q => absurd q (by omega),fun q => absurd q (by omega),fun q => absurd q (by omega),fun q => absurd q (by omega),fun q => absurd q (by omega),fun q => absurd q (by omega),fun q => absurd q (by omega),fun q => hF.t9 (by omega),fun q => hF.t10 (by omega),fun q => hF.t11 (by omega)⟩,hR⟩
 unfold xcD
 dsimp only
 rfl
theorem ygR (hlast : last < 9) : Calls Tryz.prog 16 #[.pointer (some ⟨P,0,none⟩),.int .i64 9,.pointer (some ⟨M,0,none⟩),.pointer (some ⟨C,0,none⟩)] w fun r w' => r = .returned (.tuple #[]) /\ CL w' P (xaF 9 (xcD d K) l 0).2.1 n (xaF 9 (xcD d K) l 0).2.2 /\ ChgA [P,M,C] w w' /\ JSt w' M C /\ ((xaF 9 (xcD d K) l 0).2.2 = 0 -> DSt w' N M C 9 (xaF 9 (xcD d K) l 0).1) := by
 have hCP : C ≠ P := h.apart hC (by decide)
 have hCM : C ≠ M := hM.other hC
 have hMP : M ≠ P := h.apart hM (by decide)
 have _hR := hR
 obtain ⟨e1,e2,e3⟩ := hF.t9 hlast
 have hA : (mcA d)[9]? = some (.slice none 0 0) := by
  show some (Value.slice d.oL d.elems.length d.cL) = _
  rw [e1,e2,e3]
  rfl
 refine (ykD P M C (mcA d) l n w h hM hA).mono ?_
 rintro r w' ⟨rfl,h1,c1,o1,j1,p1,hX,hL⟩
 have c3 := c1.wide (A' := [P,M,C]) (by simp)
 have q := xkK c3 h hM hC
 have hC' : CB w' C (.slice o K.length cap) := by unfold CB at hC ⊢; rw [c1.block C (xaU hC) (by simp; exact ⟨hCP,hCM⟩),hC]
 refine ⟨rfl,h1,c3,⟨_,o,d.oF,K.length,d.funcs.length,cap,d.cF,hX,hC',rfl⟩,fun h0 => ?_⟩
 obtain ⟨L,hm,hr⟩ := hL h0
 have hl := hr.len
 subst hl
 have hg := hG.kpS q (by decide)
 refine ⟨{ d with oL := o1,cL := p1,elems := L },o,cap,K,hX,hC',⟨hg.types,hg.imports,hg.funcs,hg.globals,hg.exports,hr.base hN,hg.data,LR.nil _ _ _ _ _ _,hg.table,hg.pages,hg.most,hg.start⟩,hK.kp q (by decide) (fun d hd => hd.kp q (by decide) (by decide) (by decide)),?_,⟨fun q => absurd q (by omega),fun q => absurd q (by omega),fun q => absurd q (by omega),fun q => absurd q (by omega),fun q => absurd q (by omega),fun q => absurd q (by omega),fun q => absurd q (by omega),fun q => absurd q (by omega),fun q => hF.t10 (by omega),fun q => hF.t11 (by omega)⟩,hR⟩
 unfold xcD
 (try dsimp only)
 rw [hm]
 rfl
theorem ycL (hlast : last < 10) (hMx : MaxIn w) (hP4 : 4 <= P) (hC4 : 4 <= C) (hw4 : 4 <= w.heap.size) : Calls Tryz.prog 16 #[.pointer (some ⟨P,0,none⟩),.int .i64 10,.pointer (some ⟨M,0,none⟩),.pointer (some ⟨C,0,none⟩)] w fun r w' => r = .returned (.tuple #[]) /\ CL w' P (xaF 10 (xcD d K) l 0).2.1 n (xaF 10 (xcD d K) l 0).2.2 /\ ChgA [P,M,C] w w' /\ JSt w' M C /\ ((xaF 10 (xcD d K) l 0).2.2 = 0 -> DSt w' N M C 10 (xaF 10 (xcD d K) l 0).1) := by
 have hCP : C ≠ P := h.apart hC (by decide)
 have hCM : C ≠ M := hM.other hC
 have hMP : M ≠ P := h.apart hM (by decide)
 have _hK := hK
 obtain ⟨e1,e2,e3⟩ := hF.t10 hlast
 have hC0 : CB w C (.slice none 0 0) := by
  rw [e1,e2,e3] at hC
  exact hC
 refine (ygH P M C l n w h hC0 hMx hP4 hC4 hw4).mono ?_
 rintro r w' ⟨rfl,h1,c1,o1,j1,p1,hX,hL⟩
 have c3 := c1.wide (A' := [P,M,C]) (by simp)
 have q := xkK c3 h hM hC
 have hM' : MX w' M (mcA d) := by unfold MX at hM ⊢; rw [c1.block M (xaU hM) (by simp; exact ⟨hMP,hCM.symm⟩),hM]
 refine ⟨rfl,h1,c3,⟨_,o1,d.oF,j1,d.funcs.length,p1,d.cF,hM',hX,rfl⟩,fun h0 => ?_⟩
 obtain ⟨L,hm,hr⟩ := hL h0
 have hl := hr.len
 subst hl
 have hg := hG.kpS q (by decide)
 have _hR := hR
 refine ⟨d,o1,p1,L,hM',hX,⟨hg.types,hg.imports,hg.funcs,hg.globals,hg.exports,hg.elems,hg.data,LR.nil _ _ _ _ _ _,hg.table,hg.pages,hg.most,hg.start⟩,hr.base hN,?_,⟨fun q => absurd q (by omega),fun q => absurd q (by omega),fun q => absurd q (by omega),fun q => absurd q (by omega),fun q => absurd q (by omega),fun q => absurd q (by omega),fun q => absurd q (by omega),fun q => absurd q (by omega),fun q => absurd q (by omega),fun q => hF.t11 (by omega)⟩,fun g g2 e4 e5 h3 h4 => ?_⟩
 rotate_left
 ·rcases hG.funcs.typed with h0 | ⟨b,cur,hb,_,hc⟩
  ·omega
  ·rcases hr.typed with h0 | ⟨b2,cur2,hb2,hb3,_⟩
   ·omega
   ·rw [hb] at e4
    rw [hb2] at e5
    cases e4
    cases e5
    have := xaU hc
    dsimp only
    omega
 unfold xcD
 (try dsimp only)
 rw [hm]
 rfl
theorem ycM (hlast : last < 11) : Calls Tryz.prog 16 #[.pointer (some ⟨P,0,none⟩),.int .i64 11,.pointer (some ⟨M,0,none⟩),.pointer (some ⟨C,0,none⟩)] w fun r w' => r = .returned (.tuple #[]) /\ CL w' P (xaF 11 (xcD d K) l 0).2.1 n (xaF 11 (xcD d K) l 0).2.2 /\ ChgA [P,M,C] w w' /\ JSt w' M C /\ ((xaF 11 (xcD d K) l 0).2.2 = 0 -> DSt w' N M C 11 (xaF 11 (xcD d K) l 0).1) := by
 have hCP : C ≠ P := h.apart hC (by decide)
 have hCM : C ≠ M := hM.other hC
 have hMP : M ≠ P := h.apart hM (by decide)
 have _hR := hR
 obtain ⟨e1,e2,e3⟩ := hF.t11 hlast
 have hA : (mcA d)[10]? = some (.slice none 0 0) := by
  show some (Value.slice d.oD d.data.length d.cD) = _
  rw [e1,e2,e3]
  rfl
 refine (ygI P M C (mcA d) l n w h hM hA).mono ?_
 rintro r w' ⟨rfl,h1,c1,o1,j1,p1,hX,hL⟩
 have c3 := c1.wide (A' := [P,M,C]) (by simp)
 have q := xkK c3 h hM hC
 have hC' : CB w' C (.slice o K.length cap) := by unfold CB at hC ⊢; rw [c1.block C (xaU hC) (by simp; exact ⟨hCP,hCM⟩),hC]
 refine ⟨rfl,h1,c3,⟨_,o,d.oF,K.length,d.funcs.length,cap,d.cF,hX,hC',rfl⟩,fun h0 => ?_⟩
 obtain ⟨L,hm,hr⟩ := hL h0
 have hl := hr.len
 subst hl
 have hg := hG.kpS q (by decide)
 refine ⟨{ d with oD := o1,cD := p1,data := L },o,cap,K,hX,hC',⟨hg.types,hg.imports,hg.funcs,hg.globals,hg.exports,hg.elems,hr.base hN,LR.nil _ _ _ _ _ _,hg.table,hg.pages,hg.most,hg.start⟩,hK.kp q (by decide) (fun d hd => hd.kp q (by decide) (by decide) (by decide)),?_,⟨fun q => absurd q (by omega),fun q => absurd q (by omega),fun q => absurd q (by omega),fun q => absurd q (by omega),fun q => absurd q (by omega),fun q => absurd q (by omega),fun q => absurd q (by omega),fun q => absurd q (by omega),fun q => absurd q (by omega),fun q => absurd q (by omega)⟩,hR⟩
 unfold xcD
 (try dsimp only)
 rw [hm]
 rfl
end
theorem ycK (P M C N last id : Nat) (v : DrV) (l : List Int) (n : Int) (w : World) (h : CL w P l n 0) (hS : DSt w N M C last v) (hlast : last < id) (hid : id <= 11) (hMx : MaxIn w) (hP4 : 4 <= P) (hC4 : 4 <= C) (hw4 : 4 <= w.heap.size) (hN : N <= w.heap.size) :
  Calls Tryz.prog 16 #[.pointer (some ⟨P,0,none⟩),.int .i64 (id : Int),.pointer (some ⟨M,0,none⟩),.pointer (some ⟨C,0,none⟩)] w fun r w' => r = .returned (.tuple #[]) /\ CL w' P (xaF id v l 0).2.1 n (xaF id v l 0).2.2 /\ ChgA [P,M,C] w w' /\ JSt w' M C /\ ((xaF id v l 0).2.2 = 0 -> DSt w' N M C id (xaF id v l 0).1) := by
 obtain ⟨d,o,cap,K,hM,hC,hG,hK,rfl,hF,hR⟩ := hS
 have hc : id = 1 \/ id = 2 \/ id = 3 \/ id = 4 \/ id = 5 \/ id = 6 \/ id = 7 \/ id = 8 \/ id = 9 \/ id = 10 \/ id = 11 := by omega
 rcases hc with rfl | rfl | rfl | rfl | rfl | rfl | rfl | rfl | rfl | rfl | rfl
 ·exact ygJ P M C N last d o cap K l n w h hM hC hG hK hF hR hN hlast
 ·exact ygK P M C N last d o cap K l n w h hM hC hG hK hF hR hN hlast
 ·exact ygL P M C N last d o cap K l n w h hM hC hG hK hF hR hN hlast
 ·exact ygM P M C N last d o cap K l n w h hM hC hG hK hF hR hN hlast
 ·exact ygN P M C N last d o cap K l n w h hM hC hG hK hF hR hN hlast
 ·exact ygO P M C N last d o cap K l n w h hM hC hG hK hF hR hN hlast
 ·exact ygP P M C N last d o cap K l n w h hM hC hG hK hF hR hN hlast
 ·exact ygQ P M C N last d o cap K l n w h hM hC hG hK hF hR hN hlast
 ·exact ygR P M C N last d o cap K l n w h hM hC hG hK hF hR hN hlast
 ·exact ycL P M C N last d o cap K l n w h hM hC hG hK hF hR hN hlast hMx hP4 hC4 hw4
 ·exact ycM P M C N last d o cap K l n w h hM hC hG hK hF hR hN hlast
def IB (w : World) (I : Nat) (x : Int) : Prop := w.heap[I]? = some (.cells #[.int .i64 x] 3 (0,0))
theorem IB.cell {w : World} {I : Nat} {x : Int} (h : IB w I x) : w.cell? ⟨I,0,none⟩ = some (.int .i64 x) := by
 unfold IB at h
 simp [World.cell?,h]
theorem IB.chg {w w' : World} {I P : Nat} {x : Int} (h : IB w I x) (c : Chg P w w') (hP : I ≠ P) : IB w' I x := by
 unfold IB at h ⊢
 rw [c.block I (xaU h) hP,h]
theorem DSt.chg {w w' : World} {N M C last P : Nat} {v : DrV} {l : List Int} {n a : Int} (h : DSt w N M C last v) (hP : CL w P l n a) (c : Chg P w w') : DSt w' N M C last v := by
 obtain ⟨d,o,cap,K,hM,hC,hG,hK,e,hF,hR⟩ := h
 have q := Kp.cur hP c (fun t => t != 45) (by decide)
 exact ⟨d,o,cap,K,hM.kp q (by decide),hC.kp q (by decide),hG.kpS q (by decide),hK.kp q (by decide) (fun d hd => hd.kp q (by decide) (by decide) (by decide)),e,hF,hR⟩
theorem JSt.chg {w w' : World} {M C P : Nat} {l : List Int} {n a : Int} (h : JSt w M C) (hP : CL w P l n a) (c : Chg P w w') : JSt w' M C := by
 obtain ⟨A,o,o',n1,n2,c1,c2,hM,hC,hA⟩ := h
 have q := Kp.cur hP c (fun t => t != 45) (by decide)
 exact ⟨A,o,o',n1,n2,c1,c2,hM.kp q (by decide),hC.kp q (by decide),hA⟩
theorem DSt.below {w w' : World} {N M C last : Nat} {v : DrV} (h : DSt w N M C last v) (b : Below w.heap.size w w') : DSt w' N M C last v := by
 obtain ⟨d,o,cap,K,hM,hC,hG,hK,e,hF,hR⟩ := h
 have q := Kp.below (fun _ => true) b
 exact ⟨d,o,cap,K,hM.kp q rfl,hC.kp q rfl,hG.kpS q rfl,hK.kp q rfl (fun d hd => hd.kp q rfl rfl rfl),e,hF,hR⟩
theorem yjW (D I M C N last id : Nat) (v : DrV) (l : List Int) (n : Int) (w : World) (h : CL w D l n 0) (hI : IB w I (id : Int)) (hS : DSt w N M C last v) (hlast : last < id) (hid : id <= 11) (hMx : MaxIn w) (hP4 : 4 <= D) (hC4 : 4 <= C) (hw4 : 4 <= w.heap.size) (hN : N <= w.heap.size) :
  Calls Tryz.prog 15 #[.pointer (some ⟨D,0,none⟩),.pointer (some ⟨I,0,none⟩),.pointer (some ⟨M,0,none⟩),.pointer (some ⟨C,0,none⟩)] w fun r w' => r = .returned (.tuple #[]) /\ CL w' D (xaF id v l 0).2.1 n (xaF id v l 0).2.2 /\ ChgA [D,M,C] w w' /\ JSt w' M C /\ ((xaF id v l 0).2.2 = 0 -> DSt w' N M C id (xaF id v l 0).1) := by
 have HK := kZz (ycK D M C N last id v l n w h hS hlast hid hMx hP4 hC4 hw4 hN)
 have hc := hI.cell
 clear h hI hS hMx
 go_enter Tryz.func15,Tryz.ntmps15
 go_wp2_with fail
 refine HK.out.mono ?_
 rintro r w1 ⟨rfl,h1⟩
 have H1 := kZz h1
 clear h1 HK hc
 go_wp2
 go_end0
 exact ⟨rfl,H1.out⟩
theorem yfS (P I M C N last id : Nat) (v : DrV) (l : List Int) (n : Int) (w : World) (h : CL w P l n 0) (hI : IB w I (id : Int)) (hS : DSt w N M C last v) (hlast : last < id) (hid : id <= 11) (hMx : MaxIn w) (hP4 : 4 <= P) (hC4 : 4 <= C) (hM4 : 4 <= M) (hw4 : 4 <= w.heap.size) (hN : N <= w.heap.size) :
  Calls Tryz.prog 14 #[.pointer (some ⟨P,0,none⟩),.func (.func 15) #[] #[.pointer (some ⟨I,0,none⟩),.pointer (some ⟨M,0,none⟩),.pointer (some ⟨C,0,none⟩)]] w fun r w' => r = .returned (.tuple #[]) /\ CL w' P (xaG (xaF id v) l 0).2.1 n (xaG (xaF id v) l 0).2.2 /\ ChgA [P,M,C] w w' /\ JSt w' M C /\ ((xaG (xaF id v) l 0).2.2 = 0 -> DSt w' N M C id (xaG (xaF id v) l 0).1) := by
 have hJ := hS.junk
 have hS2 := hS
 obtain ⟨d,o,cap,K,hM,hC,_⟩ := hS2
 have hCP : C ≠ P := h.apart hC (by decide)
 have hMP : M ≠ P := h.apart hM (by decide)
 have hMw := hM.lt
 have hCw := hC.lt
 have hIP : I ≠ P := h.apart hI (by decide)
 refine (xpD 0 P _ _ _ l n 0 w h (Nat.zero_le _) (Nat.zero_le _) (fun w1 => Chg P w w1) (fun t l' a' w2 => l' = (xaF id v t 0).2.1 /\ a' = (xaF id v t 0).2.2 /\ ChgA [P,M,C] w w2 /\ JSt w2 M C /\ ((xaF id v t 0).2.2 = 0 -> DSt w2 N M C id (xaF id v t 0).1)) (fun w' c => c) ?_ ?_).mono ?_
 ·intro w1 D t c1 hD hDP hDw hPw
  have hs1 := c1.size
  refine (yjW D I M C N last id v t _ w1 hD (hI.chg c1 hIP) (hS.chg h c1) hlast hid (hMx.b4 (c1.below hP4 hw4)) (by omega) hC4 (by omega) (by omega)).mono ?_
  rintro r w2 ⟨rfl,h2,c2,j2,d2⟩
  refine ⟨rfl,_,_,h2,⟨rfl,rfl,?_,j2,d2⟩,c2.block P hPw (by simp; omega),⟨c2.os,c2.tape,c2.output,c2.size,fun k hk => absurd hk (Nat.not_lt_zero _)⟩⟩
  exact ((ChgA.refl [P,M,C] w).chg c1 (Or.inl (by simp))).trans c2 (by
   intro x hx
   simp only [List.mem_cons,List.not_mem_nil,or_false] at hx
   rcases hx with rfl | rfl | rfl
   ·exact Or.inr hDw
   ·exact Or.inl (by simp)
   ·exact Or.inl (by simp))
 ·rintro t l' a' w2 w3 D ⟨e1,e2,c,j2,d2⟩ hD ⟨lc,nc,ac,hc⟩ cD
  refine ⟨e1,e2,c.chg cD ?_,j2.chg hc cD,fun q => (d2 q).chg hc cD⟩
  rcases hD with rfl | hD
  ·exact Or.inl (by simp)
  ·exact Or.inr hD
 ·rintro r w1 ⟨rfl,ho⟩
  refine ⟨rfl,?_⟩
  unfold xqH at ho
  obtain ⟨_,ho⟩ := ho
  unfold xaG
  dsimp only
  rcases ho with ⟨hne,h1,c1⟩ | ⟨he,l',a',⟨rfl,rfl,c1,j1,d1⟩,h1⟩
  ·rw [if_neg hne]
   exact ⟨h1,(ChgA.refl [P,M,C] w).chg c1 (Or.inl (by simp)),hJ.chg h c1,fun q => absurd q hne⟩
  ·rw [if_pos he]
   refine ⟨h1,c1,j1,fun q => d1 ?_⟩
   dsimp only at q
   unfold xcP at q
   split at q
   ·unfold xbD at q
    split at q
    ·cases q
    ·exact q
   ·exact q
end Go.Proofs.YtmmjgdaamkdncaaGreatDoor
