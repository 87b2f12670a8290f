import Derived.Test.YtmmjgdaamkdncaaGreatDoorAQP
namespace Go.Proofs.YtmmjgdaamkdncaaGreatDoor
set_option maxHeartbeats 4000000
set_option maxRecDepth 1000000
set_option linter.unusedVariables false
open Go.RowKit
def drC (d : ModD) (f : NumD) : Array Value := #[.slice d.oT d.types.length d.cT,.slice d.oI d.imports.length d.cI,.slice d.oF d.funcs.length d.cF,.int .i64 d.table,.int .i64 d.pages,.int .i64 d.most,.slice d.oG d.globals.length d.cG,.slice d.oE d.exports.length d.cE,.int .i64 d.start,.slice d.oL d.elems.length d.cL,.slice d.oD d.data.length d.cD,.slice f.o f.n f.cap]
def DB (w : World) (D : Nat) (d : ModD) (f : NumD) : Prop := w.heap[D]? = some (.cells (drC d f) 85 (0,0))
structure DrG (w : World) (N : Nat) (d : ModD) (f : NumD) : Prop where
 types : LR w N 67 2 SigD.cells SigG d.oT d.types.length d.cT d.types
 imports : LR w N 71 2 NamD.cells NamD.ok d.oI d.imports.length d.cI d.imports
 funcs : LR w N 55 3 FunD.cells FunG d.oF d.funcs.length d.cF d.funcs
 globals : LR w N 75 3 GloD.cells GloD.ok d.oG d.globals.length d.cG d.globals
 exports : LR w N 78 2 NamD.cells NamD.ok d.oE d.exports.length d.cE d.exports
 elems : LR w N 62 2 EleD.cells EleG d.oL d.elems.length d.cL d.elems
 data : LR w N 82 2 DatD.cells DatD.ok d.oD d.data.length d.cD d.data
 ft : LR w N 3 1 (fun x : Int => [Value.int .i64 x]) (fun (_ : World) (x : Int) => (Lit.int .i64 x).wf = true) f.o f.n f.cap f.xs
 table : inI d.table
 pages : inI d.pages
 most : inI d.most
 start : inI d.start
def drV (d : ModD) (f : NumD) : DrV := ⟨d.types.map SigD.val,d.imports.map NamD.val,f.xs,d.table,d.pages,d.most,d.globals.map GloD.val,d.exports.map NamD.val,d.start,d.elems.map EleD.val,d.funcs.map FunD.cod,d.data.map DatD.val⟩
def xdP (t : TypeId) : Bool := t != 40 && t != 85
theorem DrG.kp {w w' : World} {N : Nat} {d : ModD} {f : NumD} (h : DrG w N d f) (q : Kp xdP w w') : DrG w' N d f :=
 ⟨h.types.kp q (by decide) (fun d hd => hd.kp q (by decide)),h.imports.kp q (by decide) (fun _ hd => hd),h.funcs.kp q (by decide) (fun d hd => hd.kp q (by decide) (by decide) (by decide)),h.globals.kp q (by decide) (fun _ hd => hd),h.exports.kp q (by decide) (fun _ hd => hd),h.elems.kp q (by decide) (fun d hd => hd.kp q (by decide)),h.data.kp q (by decide) (fun _ hd => hd),h.ft.kp q (by decide) (fun _ hd => hd),h.table,h.pages,h.most,h.start⟩
theorem DB.lt {w : World} {D : Nat} {d : ModD} {f : NumD} (h : DB w D d f) : D < w.heap.size := xaU h
theorem DB.frozen {w : World} {D : Nat} {d : ModD} {f : NumD} (h : DB w D d f) (i : Nat) : w.frozen? ⟨D,i,none⟩ = false := by
 unfold DB at h
 simp [World.frozen?,h]
theorem DB.cell {w : World} {D : Nat} {d : ModD} {f : NumD} (h : DB w D d f) (i : Nat) : w.cell? ⟨D,i,none⟩ = (drC d f)[i]? := by
 unfold DB at h
 simp [World.cell?,h]
theorem DB.chg {w w' : World} {D P : Nat} {d : ModD} {f : NumD} (h : DB w D d f) (c : Chg P w w') (hP : D ≠ P) : DB w' D d f := by
 unfold DB at h ⊢
 rw [c.block D (xaU h) hP,h]
theorem DB.apart {w : World} {D I : Nat} {d : ModD} {f : NumD} {l : List Int} (h : DB w D d f) (b : BR w I l) : D ≠ I := by
 intro e
 obtain ⟨s,_,_,hs⟩ := b
 unfold DB at h
 unfold BS at hs
 rw [e,hs] at h
 simp at h
structure Chg2 (D I : Nat) (w w' : World) : Prop where
 os : w'.os = w.os
 tape : w'.tape = w.tape
 output : w'.output = w.output
 size : w.heap.size <= w'.heap.size
 block : ∀ k,k < w.heap.size -> k ≠ D -> k ≠ I -> w'.heap[k]? = w.heap[k]?
theorem Chg.two {D I : Nat} {w w1 w2 : World} (c : Chg I w w1) (q : Chg D w1 w2) : Chg2 D I w w2 :=
 ⟨q.os.trans c.os,q.tape.trans c.tape,q.output.trans c.output,Nat.le_trans c.size q.size,fun k hk h1 h2 => by rw [q.block k (Nat.lt_of_lt_of_le hk c.size) h1]; exact c.block k hk h2⟩
theorem Chg.one {D I : Nat} {w w1 : World} (c : Chg I w w1) : Chg2 D I w w1 := c.two (Chg.refl _ _)
def xeA (D I N : Nat) (n : Nat) (d : ModD) (f : NumD) (l : List Int) (w : World) (r : Ending) (w' : World) : Prop :=
 Chg2 D I w w' /\ ((∃ e,xdD n (drV d f) l = .error e /\ r = pan e) \/
  ∃ d' f' l',xdD n (drV d f) l = .ok (drV d' f',l') /\ r = .returned (.tuple #[]) /\ DB w' D d' f' /\ DrG w' N d' f' /\ BR w' I l')
theorem DB.set0 {w : World} {D : Nat} {d : ModD} {f : NumD} (h : DB w D d f) (o : Option Addr) (c : Nat) (L : List SigD) : DB (w.setCell ⟨D,0,none⟩ (.slice o L.length c)) D { d with oT := o,cT := c,types := L } f := by
 unfold DB drC at h ⊢
 simp [World.setCell,Array.getElem?_modify,h]
theorem DB.set1 {w : World} {D : Nat} {d : ModD} {f : NumD} (h : DB w D d f) (o : Option Addr) (c : Nat) (L : List NamD) : DB (w.setCell ⟨D,1,none⟩ (.slice o L.length c)) D { d with oI := o,cI := c,imports := L } f := by
 unfold DB drC at h ⊢
 simp [World.setCell,Array.getElem?_modify,h]
theorem DB.set2 {w : World} {D : Nat} {d : ModD} {f : NumD} (h : DB w D d f) (o : Option Addr) (c : Nat) (L : List FunD) : DB (w.setCell ⟨D,2,none⟩ (.slice o L.length c)) D { d with oF := o,cF := c,funcs := L } f := by
 unfold DB drC at h ⊢
 simp [World.setCell,Array.getElem?_modify,h]
theorem DB.set3 {w : World} {D : Nat} {d : ModD} {f : NumD} (h : DB w D d f) (x : Int) : DB (w.setCell ⟨D,3,none⟩ (.int .i64 x)) D { d with table := x } f := by
 unfold DB drC at h ⊢
 simp [World.setCell,Array.getElem?_modify,h]
theorem DB.set4 {w : World} {D : Nat} {d : ModD} {f : NumD} (h : DB w D d f) (x : Int) : DB (w.setCell ⟨D,4,none⟩ (.int .i64 x)) D { d with pages := x } f := by
 unfold DB drC at h ⊢
 simp [World.setCell,Array.getElem?_modify,h]
theorem DB.set5 {w : World} {D : Nat} {d : ModD} {f : NumD} (h : DB w D d f) (x : Int) : DB (w.setCell ⟨D,5,none⟩ (.int .i64 x)) D { d with most := x } f := by
 unfold DB drC at h ⊢
 simp [World.setCell,Array.getElem?_modify,h]
theorem DB.set6 {w : World} {D : Nat} {d : ModD} {f : NumD} (h : DB w D d f) (o : Option Addr) (c : Nat) (L : List GloD) : DB (w.setCell ⟨D,6,none⟩ (.slice o L.length c)) D { d with oG := o,cG := c,globals := L } f := by
 unfold DB drC at h ⊢
 simp [World.setCell,Array.getElem?_modify,h]
theorem DB.set7 {w : World} {D : Nat} {d : ModD} {f : NumD} (h : DB w D d f) (o : Option Addr) (c : Nat) (L : List NamD) : DB (w.setCell ⟨D,7,none⟩ (.slice o L.length c)) D { d with oE := o,cE := c,exports := L } f := by
 unfold DB drC at h ⊢
 simp [World.setCell,Array.getElem?_modify,h]
theorem DB.set8 {w : World} {D : Nat} {d : ModD} {f : NumD} (h : DB w D d f) (x : Int) : DB (w.setCell ⟨D,8,none⟩ (.int .i64 x)) D { d with start := x } f := by
 unfold DB drC at h ⊢
 simp [World.setCell,Array.getElem?_modify,h]
theorem DB.set9 {w : World} {D : Nat} {d : ModD} {f : NumD} (h : DB w D d f) (o : Option Addr) (c : Nat) (L : List EleD) : DB (w.setCell ⟨D,9,none⟩ (.slice o L.length c)) D { d with oL := o,cL := c,elems := L } f := by
 unfold DB drC at h ⊢
 simp [World.setCell,Array.getElem?_modify,h]
theorem DB.set10 {w : World} {D : Nat} {d : ModD} {f : NumD} (h : DB w D d f) (o : Option Addr) (c : Nat) (L : List DatD) : DB (w.setCell ⟨D,10,none⟩ (.slice o L.length c)) D { d with oD := o,cD := c,data := L } f := by
 unfold DB drC at h ⊢
 simp [World.setCell,Array.getElem?_modify,h]
theorem DB.set11 {w : World} {D : Nat} {d : ModD} {f : NumD} (h : DB w D d f) (o : Option Addr) (c : Nat) (L : List Int) : DB (w.setCell ⟨D,11,none⟩ (.slice o L.length c)) D d ⟨o,L.length,c,L⟩ := by
 unfold DB drC at h ⊢
 simp [World.setCell,Array.getElem?_modify,h]
theorem ydT (I N : Nat) (w0 : World) (hA0 : Amb w0) (hN4 : 4 <= N) (hNI : N <= I) : ∀ l' w',BR w' I l' -> Below N w0 w' -> N <= w'.heap.size -> Calls Tryz.prog 49 #[.pointer (some ⟨I,0,none⟩)] w' (Out I (fun a w v => ∃ d : SigD,v = .agg #[.slice d.i.o d.i.n d.i.cap,.slice d.r.o d.r.n d.r.cap] /\ SigD.val d = a /\ SigG w d) (xvI l') w') := fun l' w' h hb hn =>
 ynS I N w0 l' w' h ⟨hb,hn⟩ hNI
theorem ydS (I N : Nat) (w0 : World) (hA0 : Amb w0) (hN4 : 4 <= N) (hNI : N <= I) : ∀ l' w',BR w' I l' -> Below N w0 w' -> N <= w'.heap.size -> Calls Tryz.prog 51 #[.pointer (some ⟨I,0,none⟩)] w' (Out I (fun a w v => ∃ d : NamD,v = .agg #[.string d.s,.int .i64 d.n] /\ NamD.val d = a /\ NamD.ok w d) (xpE l') w') := fun l' w' h hb hn =>
 xxH I l' w' h (hA0.to (hb.mono hN4)) (by omega)
theorem ydP (I N : Nat) (w0 : World) (hA0 : Amb w0) (hN4 : 4 <= N) (hNI : N <= I) : ∀ l' w',BR w' I l' -> Below N w0 w' -> N <= w'.heap.size -> Calls Tryz.prog 58 #[.pointer (some ⟨I,0,none⟩)] w' (Out I (fun a w v => ∃ d : NamD,v = .agg #[.string d.s,.int .i64 d.n] /\ NamD.val d = a /\ NamD.ok w d) (xtP l') w') := fun l' w' h hb hn =>
 yfM I l' w' h (hA0.to (hb.mono hN4)) (by omega)
theorem ydR (I N : Nat) (w0 : World) (hA0 : Amb w0) (hN4 : 4 <= N) (hNI : N <= I) : ∀ l' w',BR w' I l' -> Below N w0 w' -> N <= w'.heap.size -> Calls Tryz.prog 56 #[.pointer (some ⟨I,0,none⟩)] w' (Out I (fun a w v => ∃ d : GloD,v = .agg #[.int .u8 d.k,.bool d.m,.int .i64 d.s] /\ GloD.val d = a /\ GloD.ok w d) (xlN l') w') := fun l' w' h hb hn =>
 yfN I l' w' h
theorem ydN (I N : Nat) (w0 : World) (hA0 : Amb w0) (hN4 : 4 <= N) (hNI : N <= I) : ∀ l' w',BR w' I l' -> Below N w0 w' -> N <= w'.heap.size -> Calls Tryz.prog 61 #[.pointer (some ⟨I,0,none⟩)] w' (Out I (fun a w v => ∃ d : EleD,v = .agg #[.int .i64 d.a,.slice d.f.o d.f.n d.f.cap] /\ EleD.val d = a /\ EleG w d) (xvC l') w') := fun l' w' h hb hn =>
 ymX I N w0 l' w' h ⟨hb,hn⟩ hNI
theorem ydM (I N : Nat) (w0 : World) (hA0 : Amb w0) (hN4 : 4 <= N) (hNI : N <= I) : ∀ l' w',BR w' I l' -> Below N w0 w' -> N <= w'.heap.size -> Calls Tryz.prog 65 #[.pointer (some ⟨I,0,none⟩)] w' (Out I (fun a w v => ∃ d : DatD,v = .agg #[.int .i64 d.a,.string d.s] /\ DatD.val d = a /\ DatD.ok w d) (xuR l') w') := fun l' w' h hb hn =>
 ymW I l' w' h
theorem ydQ (I N : Nat) (w0 : World) (hA0 : Amb w0) (hN4 : 4 <= N) (hNI : N <= I) : ∀ l' w',BR w' I l' -> Below N w0 w' -> N <= w'.heap.size -> Calls Tryz.prog 63 #[.pointer (some ⟨I,0,none⟩)] w' (Out I (fun a w v => ∃ d : FunD,v = .agg #[.int .i64 d.t,.slice d.l.o d.l.n d.l.cap,.slice d.o d.b.length d.cap] /\ FunD.cod d = a /\ FunG w d) (xlM l') w') := fun l' w' h hb hn =>
 (ymV I l' w' h (hA0.to (hb.mono hN4)) (by omega)).mono fun r w2 ho => ho.imp fun a l v _ hv => let ⟨d,h1,h2,h3,_⟩ := hv; ⟨d,h1,h2,h3⟩
theorem yiG (D I N : Nat) (l : List Int) (w0 w : World) (hA0 : Amb w0) (hN4 : 4 <= N) (hNI : N <= I) (hW : Below N w0 w /\ N <= hsz w) (d : ModD) (f : NumD) (hD : DB w D d f) (hG : DrG w N d f) (h : BR w I l) :
  Calls Tryz.prog 33 #[.pointer (some ⟨D,0,none⟩),.int .u8 1,.pointer (some ⟨I,0,none⟩)] w (xeA D I N 1 d f l w) := by
 have hDI := hD.apart h
 have HB : Hid (BR w I l) := h
 have HD : Hid (DB w D d f) := hD
 have HG : Hid (DrG w N d f) := hG
 have HA0 : Hid (Amb w0) := hA0
 clear h hD hG hA0
 go_enter Tryz.func33,Tryz.ntmps33
 go_wp2_with fail
 refine (xxO I N 16 (by omega) xvI SigD.val w0 w l HB.out hW.1 hNI hW.2 (ydT I N w0 HA0.out hN4 hNI)).mono ?_
 intro r w1 ho
 rcases hx : xbP 16 xvI l with x | ⟨a,l1⟩
 ·obtain ⟨c,rfl⟩ := ho.err hx
  exact ⟨rfl,c.one,Or.inl ⟨x,xaW hx,rfl⟩⟩
 obtain ⟨c,⟨v,rfl,o,cap,L,rfl,hm,hl⟩,hb⟩ := ho.got hx
 have HD1 : Hid (DB w1 D d f) := HD.out.chg c hDI
 have y := HD1.out.cell 0
 have f0 := HD1.out.frozen 0
 have HX : Hid (xdD 1 (drV d f) l = .ok (drV { d with oT := o,cT := cap,types := L } f,l1)) := by
  unfold Hid
  show nxt (xbP 16 xvI) _ l = _
  rw [xaV hx,<- hm]
  rfl
 have HL := kZz hl
 have HG1 : Hid (DrG w1 N d f) := HG.out.kp (Kp.reader HB.out c xdP (by decide))
 have HB1 : Hid (BR w1 I l1) := hb
 have HC : Hid (Chg I w w1) := c
 clear hx ho hb hm hl c HB HD HG HA0
 unfold drC at y
 simp only [List.getElem?_toArray,List.getElem?_cons_zero] at y
 go_wp2
 go_end0
 have hS : Chg D w1 (w1.setCell ⟨D,0,none⟩ (.slice o L.length cap)) := Chg.set _ _ _ _
 have q : Kp xdP w1 (w1.setCell ⟨D,0,none⟩ (.slice o L.length cap)) := Kp.chg HD1.out hS _ (by decide)
 have hg := HG1.out.kp q
 have HL := HL.out.kp q (by decide) (fun d hd => hd.kp q (by decide))
 exact ⟨HC.out.two hS,Or.inr ⟨_,_,l1,HX.out,rfl,HD1.out.set0 o cap L,⟨HL,hg.imports,hg.funcs,hg.globals,hg.exports,hg.elems,hg.data,hg.ft,hg.table,hg.pages,hg.most,hg.start⟩,HB1.out.kp (Kp.chg HD1.out hS (fun t => t != 85) (by decide)) (by decide)⟩⟩
theorem yiH (D I N : Nat) (l : List Int) (w0 w : World) (hA0 : Amb w0) (hN4 : 4 <= N) (hNI : N <= I) (hW : Below N w0 w /\ N <= hsz w) (d : ModD) (f : NumD) (hD : DB w D d f) (hG : DrG w N d f) (h : BR w I l) :
  Calls Tryz.prog 33 #[.pointer (some ⟨D,0,none⟩),.int .u8 2,.pointer (some ⟨I,0,none⟩)] w (xeA D I N 2 d f l w) := by
 have hDI := hD.apart h
 have HB : Hid (BR w I l) := h
 have HD : Hid (DB w D d f) := hD
 have HG : Hid (DrG w N d f) := hG
 have HA0 : Hid (Amb w0) := hA0
 clear h hD hG hA0
 go_enter Tryz.func33,Tryz.ntmps33
 go_wp2_with fail
 refine (xxN I N 16 (by omega) xpE NamD.val w0 w l HB.out hW.1 hNI hW.2 (ydS I N w0 HA0.out hN4 hNI)).mono ?_
 intro r w1 ho
 rcases hx : xbP 16 xpE l with x | ⟨a,l1⟩
 ·obtain ⟨c,rfl⟩ := ho.err hx
  exact ⟨rfl,c.one,Or.inl ⟨x,xaW hx,rfl⟩⟩
 obtain ⟨c,⟨v,rfl,o,cap,L,rfl,hm,hl⟩,hb⟩ := ho.got hx
 have HD1 : Hid (DB w1 D d f) := HD.out.chg c hDI
 have y := HD1.out.cell 1
 have f0 := HD1.out.frozen 1
 have HX : Hid (xdD 2 (drV d f) l = .ok (drV { d with oI := o,cI := cap,imports := L } f,l1)) := by
  unfold Hid
  show nxt (xbP 16 xpE) _ l = _
  rw [xaV hx,<- hm]
  rfl
 have HL := kZz hl
 have HG1 : Hid (DrG w1 N d f) := HG.out.kp (Kp.reader HB.out c xdP (by decide))
 have HB1 : Hid (BR w1 I l1) := hb
 have HC : Hid (Chg I w w1) := c
 clear hx ho hb hm hl c HB HD HG HA0
 unfold drC at y
 simp only [List.getElem?_toArray,List.getElem?_cons_succ,List.getElem?_cons_zero] at y
 go_wp2
 go_end0
 have hS : Chg D w1 (w1.setCell ⟨D,1,none⟩ (.slice o L.length cap)) := Chg.set _ _ _ _
 have q : Kp xdP w1 (w1.setCell ⟨D,1,none⟩ (.slice o L.length cap)) := Kp.chg HD1.out hS _ (by decide)
 have hg := HG1.out.kp q
 have HL := HL.out.kp q (by decide) (fun _ hd => hd)
 exact ⟨HC.out.two hS,Or.inr ⟨_,_,l1,HX.out,rfl,HD1.out.set1 o cap L,⟨hg.types,HL,hg.funcs,hg.globals,hg.exports,hg.elems,hg.data,hg.ft,hg.table,hg.pages,hg.most,hg.start⟩,HB1.out.kp (Kp.chg HD1.out hS (fun t => t != 85) (by decide)) (by decide)⟩⟩
theorem yiI (D I N : Nat) (l : List Int) (w0 w : World) (hA0 : Amb w0) (hN4 : 4 <= N) (hNI : N <= I) (hW : Below N w0 w /\ N <= hsz w) (d : ModD) (f : NumD) (hD : DB w D d f) (hG : DrG w N d f) (h : BR w I l) :
  Calls Tryz.prog 33 #[.pointer (some ⟨D,0,none⟩),.int .u8 3,.pointer (some ⟨I,0,none⟩)] w (xeA D I N 3 d f l w) := by
 have hDI := hD.apart h
 have HB : Hid (BR w I l) := h
 have HD : Hid (DB w D d f) := hD
 have HG : Hid (DrG w N d f) := hG
 have HA0 : Hid (Amb w0) := hA0
 clear h hD hG hA0
 go_enter Tryz.func33,Tryz.ntmps33
 go_wp2_with fail
 refine (xoE I N 16 (by omega) xeG id w0 w l HB.out hW.1 hNI hW.2 (xwY I N w0)).mono ?_
 intro r w1 ho
 rcases hx : xbP 16 xeG l with x | ⟨a,l1⟩
 ·obtain ⟨c,rfl⟩ := ho.err hx
  exact ⟨rfl,c.one,Or.inl ⟨x,xaW hx,rfl⟩⟩
 obtain ⟨c,⟨v,rfl,o,cap,L,rfl,hm,hl⟩,hb⟩ := ho.got hx
 have HD1 : Hid (DB w1 D d f) := HD.out.chg c hDI
 have y := HD1.out.cell 11
 have f0 := HD1.out.frozen 11
 have HX : Hid (xdD 3 (drV d f) l = .ok (drV d ⟨o,L.length,cap,L⟩,l1)) := by
  unfold Hid
  show nxt (xbP 16 xeG) _ l = _
  rw [xaV hx,<- hm]
  simp [drV,ret]
 have HL := kZz hl
 have HG1 : Hid (DrG w1 N d f) := HG.out.kp (Kp.reader HB.out c xdP (by decide))
 have HB1 : Hid (BR w1 I l1) := hb
 have HC : Hid (Chg I w w1) := c
 clear hx ho hb hm hl c HB HD HG HA0
 unfold drC at y
 simp only [List.getElem?_toArray,List.getElem?_cons_succ,List.getElem?_cons_zero] at y
 go_wp2
 go_end0
 have hS : Chg D w1 (w1.setCell ⟨D,11,none⟩ (.slice o L.length cap)) := Chg.set _ _ _ _
 have q : Kp xdP w1 (w1.setCell ⟨D,11,none⟩ (.slice o L.length cap)) := Kp.chg HD1.out hS _ (by decide)
 have hg := HG1.out.kp q
 have HL := HL.out.kp q (by decide) (fun _ hd => hd)
 exact ⟨HC.out.two hS,Or.inr ⟨_,_,l1,HX.out,rfl,HD1.out.set11 o cap L,⟨hg.types,hg.imports,hg.funcs,hg.globals,hg.exports,hg.elems,hg.data,HL,hg.table,hg.pages,hg.most,hg.start⟩,HB1.out.kp (Kp.chg HD1.out hS (fun t => t != 85) (by decide)) (by decide)⟩⟩
theorem xzV {l r : List Int} {a : Int} (hl : Bts l) (h : xfQ l = .ok (a,r)) : inI a := by
 obtain ⟨k,r1,h1,h2⟩ := xaJ h
 split at h2
 ·simp only [ret,Except.ok.injEq,Prod.mk.injEq] at h2
  exact ⟨by omega,by omega⟩
 ·obtain ⟨_,r3,h5,h6⟩ := xaJ h2
  obtain ⟨_,r4,h7,h8⟩ := xaJ h6
  obtain ⟨n,r5,h9,h10⟩ := xaJ h8
  obtain ⟨_,r6,h11,h12⟩ := xaJ h10
  obtain ⟨h13,rfl⟩ := xcI h11
  simp only [ret,Except.ok.injEq,Prod.mk.injEq] at h12
  obtain ⟨rfl,rfl⟩ := h12
  have s1 := (xbM 1 (by omega)).ok _ _ _ hl h1
  have e5 := xfG h5
  have e7 := xfG h7
  have b4 : Bts r4 := hl.suf (List.IsSuffix.trans (by rw [e5,e7]; exact ⟨[112,0],rfl⟩) s1.2.1)
  exact xiH (xcH b4 h9)
theorem xzR {l r : List Int} {a : Int} (hl : Bts l) (h : xhN l = .ok (a,r)) : inI a := by
 obtain ⟨n,r1,h1,h2⟩ := xaJ h
 obtain ⟨_,r2,h3,h4⟩ := xaJ h2
 simp only [ret,Except.ok.injEq,Prod.mk.injEq] at h4
 obtain ⟨rfl,rfl⟩ := h4
 have := xcH hl h1
 exact ⟨by have := this.1; omega,by have := this.2; omega⟩
theorem yhG {l r : List Int} {a : Int × Int} (hl : Bts l) (h : xrO l = .ok (a,r)) : inI a.1 /\ inI a.2 := by
 obtain ⟨k,r1,h1,h2⟩ := xaJ h
 split at h2
 ·simp only [ret,Except.ok.injEq,Prod.mk.injEq] at h2
  obtain ⟨rfl,_⟩ := h2
  exact ⟨⟨by decide,by decide⟩,⟨by decide,by decide⟩⟩
 ·obtain ⟨_,r3,h5,h6⟩ := xaJ h2
  obtain ⟨p,r4,h7,h8⟩ := xaJ h6
  obtain ⟨m,r5,h9,h10⟩ := xaJ h8
  obtain ⟨_,r6,h11,h12⟩ := xaJ h10
  obtain ⟨h13,rfl⟩ := xcI h11
  simp only [ret,Except.ok.injEq,Prod.mk.injEq] at h12
  obtain ⟨rfl,rfl⟩ := h12
  have s1 := (xbM 1 (by omega)).ok _ _ _ hl h1
  have e5 := xfG h5
  have b3 : Bts r3 := hl.suf (List.IsSuffix.trans (by rw [e5]; exact List.suffix_cons _ _) s1.2.1)
  have n1 := cod_num.ok _ _ _ b3 h7
  have n2 := (xbM 8 (by omega)).ok _ _ _ (b3.suf n1.2.1) h9
  exact ⟨xiH n1.1,⟨by have := n2.1.1; dsimp only; omega,by have := n2.1.2; dsimp only; omega⟩⟩
theorem yiJ (D I N : Nat) (l : List Int) (w : World) (d : ModD) (f : NumD) (hD : DB w D d f) (hG : DrG w N d f) (h : BR w I l) :
  Calls Tryz.prog 33 #[.pointer (some ⟨D,0,none⟩),.int .u8 4,.pointer (some ⟨I,0,none⟩)] w (xeA D I N 4 d f l w) := by
 have hDI := hD.apart h
 have HB : Hid (BR w I l) := h
 have HD : Hid (DB w D d f) := hD
 have HG : Hid (DrG w N d f) := hG
 clear h hD hG
 go_enter Tryz.func33,Tryz.ntmps33
 go_wp2_with fail
 refine (yjY I l _ HB.out).mono ?_
 intro r w1 ho
 rcases hx : xfQ l with x | ⟨a,l1⟩
 ·obtain ⟨c,rfl⟩ := ho.err hx
  exact ⟨rfl,c.one,Or.inl ⟨x,xaW hx,rfl⟩⟩
 obtain ⟨c,⟨v,rfl,rfl⟩,hb⟩ := ho.got hx
 have HD1 : Hid (DB w1 D d f) := HD.out.chg c hDI
 have y := HD1.out.cell 3
 have f0 := HD1.out.frozen 3
 have HX : Hid (xdD 4 (drV d f) l = .ok (drV { d with table := a } f,l1)) := by
  unfold Hid
  show nxt xfQ _ l = _
  rw [xaV hx]
  rfl
 have HI : Hid (inI a) := xzV HB.out.byte hx
 have HG1 : Hid (DrG w1 N d f) := HG.out.kp (Kp.reader HB.out c xdP (by decide))
 have HB1 : Hid (BR w1 I l1) := hb
 have HC : Hid (Chg I w w1) := c
 clear hx ho hb c HB HD HG
 unfold drC at y
 simp only [List.getElem?_toArray,List.getElem?_cons_succ,List.getElem?_cons_zero] at y
 go_wp2
 go_end0
 have hS : Chg D w1 (w1.setCell ⟨D,3,none⟩ (.int .i64 a)) := Chg.set _ _ _ _
 have q : Kp xdP w1 (w1.setCell ⟨D,3,none⟩ (.int .i64 a)) := Kp.chg HD1.out hS _ (by decide)
 have hg := HG1.out.kp q
 have HI := HI.out
 exact ⟨HC.out.two hS,Or.inr ⟨_,_,l1,HX.out,rfl,HD1.out.set3 a,⟨hg.types,hg.imports,hg.funcs,hg.globals,hg.exports,hg.elems,hg.data,hg.ft,HI,hg.pages,hg.most,hg.start⟩,HB1.out.kp (Kp.chg HD1.out hS (fun t => t != 85) (by decide)) (by decide)⟩⟩
theorem yiN (D I N : Nat) (l : List Int) (w : World) (d : ModD) (f : NumD) (hD : DB w D d f) (hG : DrG w N d f) (h : BR w I l) :
  Calls Tryz.prog 33 #[.pointer (some ⟨D,0,none⟩),.int .u8 8,.pointer (some ⟨I,0,none⟩)] w (xeA D I N 8 d f l w) := by
 have hDI := hD.apart h
 have HB : Hid (BR w I l) := h
 have HD : Hid (DB w D d f) := hD
 have HG : Hid (DrG w N d f) := hG
 clear h hD hG
 go_enter Tryz.func33,Tryz.ntmps33
 go_wp2_with fail
 refine (yjX I l _ HB.out).mono ?_
 intro r w1 ho
 rcases hx : xhN l with x | ⟨a,l1⟩
 ·obtain ⟨c,rfl⟩ := ho.err hx
  exact ⟨rfl,c.one,Or.inl ⟨x,xaW hx,rfl⟩⟩
 obtain ⟨c,⟨v,rfl,rfl⟩,hb⟩ := ho.got hx
 have HD1 : Hid (DB w1 D d f) := HD.out.chg c hDI
 have y := HD1.out.cell 8
 have f0 := HD1.out.frozen 8
 have HX : Hid (xdD 8 (drV d f) l = .ok (drV { d with start := a } f,l1)) := by
  unfold Hid
  show nxt xhN _ l = _
  rw [xaV hx]
  rfl
 have HI : Hid (inI a) := xzR HB.out.byte hx
 have HG1 : Hid (DrG w1 N d f) := HG.out.kp (Kp.reader HB.out c xdP (by decide))
 have HB1 : Hid (BR w1 I l1) := hb
 have HC : Hid (Chg I w w1) := c
 clear hx ho hb c HB HD HG
 unfold drC at y
 simp only [List.getElem?_toArray,List.getElem?_cons_succ,List.getElem?_cons_zero] at y
 go_wp2
 go_end0
 have hS : Chg D w1 (w1.setCell ⟨D,8,none⟩ (.int .i64 a)) := Chg.set _ _ _ _
 have q : Kp xdP w1 (w1.setCell ⟨D,8,none⟩ (.int .i64 a)) := Kp.chg HD1.out hS _ (by decide)
 have hg := HG1.out.kp q
 have HI := HI.out
 exact ⟨HC.out.two hS,Or.inr ⟨_,_,l1,HX.out,rfl,HD1.out.set8 a,⟨hg.types,hg.imports,hg.funcs,hg.globals,hg.exports,hg.elems,hg.data,hg.ft,hg.table,hg.pages,hg.most,HI⟩,HB1.out.kp (Kp.chg HD1.out hS (fun t => t != 85) (by decide)) (by decide)⟩⟩
theorem yiK (D I N : Nat) (l : List Int) (w : World) (d : ModD) (f : NumD) (hD : DB w D d f) (hG : DrG w N d f) (h : BR w I l) :
  Calls Tryz.prog 33 #[.pointer (some ⟨D,0,none⟩),.int .u8 5,.pointer (some ⟨I,0,none⟩)] w (xeA D I N 5 d f l w) := by
 have hDI := hD.apart h
 have HB : Hid (BR w I l) := h
 have HD : Hid (DB w D d f) := hD
 have HG : Hid (DrG w N d f) := hG
 clear h hD hG
 go_enter Tryz.func33,Tryz.ntmps33
 go_wp2_with fail
 refine (yfQ I l _ HB.out).mono ?_
 intro r w1 ho
 rcases hx : xrO l with x | ⟨⟨a,b⟩,l1⟩
 ·obtain ⟨c,rfl⟩ := ho.err hx
  exact ⟨rfl,c.one,Or.inl ⟨x,xaW hx,rfl⟩⟩
 obtain ⟨c,⟨v,rfl,rfl⟩,hb⟩ := ho.got hx
 have HD1 : Hid (DB w1 D d f) := HD.out.chg c hDI
 have y := HD1.out.cell 4
 have y5 := HD1.out.cell 5
 have f0 := HD1.out.frozen 4
 have f5 := HD1.out.frozen 5
 have HX : Hid (xdD 5 (drV d f) l = .ok (drV { { d with pages := a } with most := b } f,l1)) := by
  unfold Hid
  show nxt xrO _ l = _
  rw [xaV hx]
  rfl
 have HI : Hid (inI a /\ inI b) := yhG HB.out.byte hx
 have HG1 : Hid (DrG w1 N d f) := HG.out.kp (Kp.reader HB.out c xdP (by decide))
 have HB1 : Hid (BR w1 I l1) := hb
 have HC : Hid (Chg I w w1) := c
 clear hx ho hb c HB HD HG
 unfold drC at y y5
 simp only [List.getElem?_toArray,List.getElem?_cons_succ,List.getElem?_cons_zero] at y y5
 go_wp2
 go_end0
 have hS : Chg D w1 ((w1.setCell ⟨D,4,none⟩ (.int .i64 a)).setCell ⟨D,5,none⟩ (.int .i64 b)) := (Chg.set _ _ _ _).trans (Chg.set _ _ _ _)
 have q : Kp xdP w1 ((w1.setCell ⟨D,4,none⟩ (.int .i64 a)).setCell ⟨D,5,none⟩ (.int .i64 b)) := Kp.chg HD1.out hS _ (by decide)
 have hg := HG1.out.kp q
 exact ⟨HC.out.two hS,Or.inr ⟨_,_,l1,HX.out,rfl,(HD1.out.set4 a).set5 b,⟨hg.types,hg.imports,hg.funcs,hg.globals,hg.exports,hg.elems,hg.data,hg.ft,hg.table,HI.out.1,HI.out.2,hg.start⟩,HB1.out.kp (Kp.chg HD1.out hS (fun t => t != 85) (by decide)) (by decide)⟩⟩
theorem yiL (D I N : Nat) (l : List Int) (w0 w : World) (hA0 : Amb w0) (hN4 : 4 <= N) (hNI : N <= I) (hW : Below N w0 w /\ N <= hsz w) (d : ModD) (f : NumD) (hD : DB w D d f) (hG : DrG w N d f) (h : BR w I l) :
  Calls Tryz.prog 33 #[.pointer (some ⟨D,0,none⟩),.int .u8 6,.pointer (some ⟨I,0,none⟩)] w (xeA D I N 6 d f l w) := by
 have hDI := hD.apart h
 have HB : Hid (BR w I l) := h
 have HD : Hid (DB w D d f) := hD
 have HG : Hid (DrG w N d f) := hG
 have HA0 : Hid (Amb w0) := hA0
 clear h hD hG hA0
 go_enter Tryz.func33,Tryz.ntmps33
 go_wp2_with fail
 refine (xxM I N 8 (by omega) xlN GloD.val w0 w l HB.out hW.1 hNI hW.2 (ydR I N w0 HA0.out hN4 hNI)).mono ?_
 intro r w1 ho
 rcases hx : xbP 8 xlN l with x | ⟨a,l1⟩
 ·obtain ⟨c,rfl⟩ := ho.err hx
  exact ⟨rfl,c.one,Or.inl ⟨x,xaW hx,rfl⟩⟩
 obtain ⟨c,⟨v,rfl,o,cap,L,rfl,hm,hl⟩,hb⟩ := ho.got hx
 have HD1 : Hid (DB w1 D d f) := HD.out.chg c hDI
 have y := HD1.out.cell 6
 have f0 := HD1.out.frozen 6
 have HX : Hid (xdD 6 (drV d f) l = .ok (drV { d with oG := o,cG := cap,globals := L } f,l1)) := by
  unfold Hid
  show nxt (xbP 8 xlN) _ l = _
  rw [xaV hx,<- hm]
  rfl
 have HL := kZz hl
 have HG1 : Hid (DrG w1 N d f) := HG.out.kp (Kp.reader HB.out c xdP (by decide))
 have HB1 : Hid (BR w1 I l1) := hb
 have HC : Hid (Chg I w w1) := c
 clear hx ho hb hm hl c HB HD HG HA0
 unfold drC at y
 simp only [List.getElem?_toArray,List.getElem?_cons_succ,List.getElem?_cons_zero] at y
 go_wp2
 go_end0
 have hS : Chg D w1 (w1.setCell ⟨D,6,none⟩ (.slice o L.length cap)) := Chg.set _ _ _ _
 have q : Kp xdP w1 (w1.setCell ⟨D,6,none⟩ (.slice o L.length cap)) := Kp.chg HD1.out hS _ (by decide)
 have hg := HG1.out.kp q
 have HL := HL.out.kp q (by decide) (fun _ hd => hd)
 exact ⟨HC.out.two hS,Or.inr ⟨_,_,l1,HX.out,rfl,HD1.out.set6 o cap L,⟨hg.types,hg.imports,hg.funcs,HL,hg.exports,hg.elems,hg.data,hg.ft,hg.table,hg.pages,hg.most,hg.start⟩,HB1.out.kp (Kp.chg HD1.out hS (fun t => t != 85) (by decide)) (by decide)⟩⟩
theorem yiM (D I N : Nat) (l : List Int) (w0 w : World) (hA0 : Amb w0) (hN4 : 4 <= N) (hNI : N <= I) (hW : Below N w0 w /\ N <= hsz w) (d : ModD) (f : NumD) (hD : DB w D d f) (hG : DrG w N d f) (h : BR w I l) :
  Calls Tryz.prog 33 #[.pointer (some ⟨D,0,none⟩),.int .u8 7,.pointer (some ⟨I,0,none⟩)] w (xeA D I N 7 d f l w) := by
 have hDI := hD.apart h
 have HB : Hid (BR w I l) := h
 have HD : Hid (DB w D d f) := hD
 have HG : Hid (DrG w N d f) := hG
 have HA0 : Hid (Amb w0) := hA0
 clear h hD hG hA0
 go_enter Tryz.func33,Tryz.ntmps33
 go_wp2_with fail
 refine (xxK I N 8 (by omega) xtP NamD.val w0 w l HB.out hW.1 hNI hW.2 (ydP I N w0 HA0.out hN4 hNI)).mono ?_
 intro r w1 ho
 rcases hx : xbP 8 xtP l with x | ⟨a,l1⟩
 ·obtain ⟨c,rfl⟩ := ho.err hx
  exact ⟨rfl,c.one,Or.inl ⟨x,xaW hx,rfl⟩⟩
 obtain ⟨c,⟨v,rfl,o,cap,L,rfl,hm,hl⟩,hb⟩ := ho.got hx
 have HD1 : Hid (DB w1 D d f) := HD.out.chg c hDI
 have y := HD1.out.cell 7
 have f0 := HD1.out.frozen 7
 have HX : Hid (xdD 7 (drV d f) l = .ok (drV { d with oE := o,cE := cap,exports := L } f,l1)) := by
  unfold Hid
  show nxt (xbP 8 xtP) _ l = _
  rw [xaV hx,<- hm]
  rfl
 have HL := kZz hl
 have HG1 : Hid (DrG w1 N d f) := HG.out.kp (Kp.reader HB.out c xdP (by decide))
 have HB1 : Hid (BR w1 I l1) := hb
 have HC : Hid (Chg I w w1) := c
 clear hx ho hb hm hl c HB HD HG HA0
 unfold drC at y
 simp only [List.getElem?_toArray,List.getElem?_cons_succ,List.getElem?_cons_zero] at y
 go_wp2
 go_end0
 have hS : Chg D w1 (w1.setCell ⟨D,7,none⟩ (.slice o L.length cap)) := Chg.set _ _ _ _
 have q : Kp xdP w1 (w1.setCell ⟨D,7,none⟩ (.slice o L.length cap)) := Kp.chg HD1.out hS _ (by decide)
 have hg := HG1.out.kp q
 have HL := HL.out.kp q (by decide) (fun _ hd => hd)
 exact ⟨HC.out.two hS,Or.inr ⟨_,_,l1,HX.out,rfl,HD1.out.set7 o cap L,⟨hg.types,hg.imports,hg.funcs,hg.globals,HL,hg.elems,hg.data,hg.ft,hg.table,hg.pages,hg.most,hg.start⟩,HB1.out.kp (Kp.chg HD1.out hS (fun t => t != 85) (by decide)) (by decide)⟩⟩
theorem yiO (D I N : Nat) (l : List Int) (w0 w : World) (hA0 : Amb w0) (hN4 : 4 <= N) (hNI : N <= I) (hW : Below N w0 w /\ N <= hsz w) (d : ModD) (f : NumD) (hD : DB w D d f) (hG : DrG w N d f) (h : BR w I l) :
  Calls Tryz.prog 33 #[.pointer (some ⟨D,0,none⟩),.int .u8 9,.pointer (some ⟨I,0,none⟩)] w (xeA D I N 9 d f l w) := by
 have hDI := hD.apart h
 have HB : Hid (BR w I l) := h
 have HD : Hid (DB w D d f) := hD
 have HG : Hid (DrG w N d f) := hG
 have HA0 : Hid (Amb w0) := hA0
 clear h hD hG hA0
 go_enter Tryz.func33,Tryz.ntmps33
 go_wp2_with fail
 refine (xxJ I N 4 (by omega) xvC EleD.val w0 w l HB.out hW.1 hNI hW.2 (ydN I N w0 HA0.out hN4 hNI)).mono ?_
 intro r w1 ho
 rcases hx : xbP 4 xvC l with x | ⟨a,l1⟩
 ·obtain ⟨c,rfl⟩ := ho.err hx
  exact ⟨rfl,c.one,Or.inl ⟨x,xaW hx,rfl⟩⟩
 obtain ⟨c,⟨v,rfl,o,cap,L,rfl,hm,hl⟩,hb⟩ := ho.got hx
 have HD1 : Hid (DB w1 D d f) := HD.out.chg c hDI
 have y := HD1.out.cell 9
 have f0 := HD1.out.frozen 9
 have HX : Hid (xdD 9 (drV d f) l = .ok (drV { d with oL := o,cL := cap,elems := L } f,l1)) := by
  unfold Hid
  show nxt (xbP 4 xvC) _ l = _
  rw [xaV hx,<- hm]
  rfl
 have HL := kZz hl
 have HG1 : Hid (DrG w1 N d f) := HG.out.kp (Kp.reader HB.out c xdP (by decide))
 have HB1 : Hid (BR w1 I l1) := hb
 have HC : Hid (Chg I w w1) := c
 clear hx ho hb hm hl c HB HD HG HA0
 unfold drC at y
 simp only [List.getElem?_toArray,List.getElem?_cons_succ,List.getElem?_cons_zero] at y
 go_wp2
 go_end0
 have hS : Chg D w1 (w1.setCell ⟨D,9,none⟩ (.slice o L.length cap)) := Chg.set _ _ _ _
 have q : Kp xdP w1 (w1.setCell ⟨D,9,none⟩ (.slice o L.length cap)) := Kp.chg HD1.out hS _ (by decide)
 have hg := HG1.out.kp q
 have HL := HL.out.kp q (by decide) (fun d hd => hd.kp q (by decide))
 exact ⟨HC.out.two hS,Or.inr ⟨_,_,l1,HX.out,rfl,HD1.out.set9 o cap L,⟨hg.types,hg.imports,hg.funcs,hg.globals,hg.exports,HL,hg.data,hg.ft,hg.table,hg.pages,hg.most,hg.start⟩,HB1.out.kp (Kp.chg HD1.out hS (fun t => t != 85) (by decide)) (by decide)⟩⟩
theorem yeE (D I N : Nat) (l : List Int) (w0 w : World) (hA0 : Amb w0) (hN4 : 4 <= N) (hNI : N <= I) (hW : Below N w0 w /\ N <= hsz w) (d : ModD) (f : NumD) (hD : DB w D d f) (hG : DrG w N d f) (h : BR w I l) :
  Calls Tryz.prog 33 #[.pointer (some ⟨D,0,none⟩),.int .u8 10,.pointer (some ⟨I,0,none⟩)] w (xeA D I N 10 d f l w) := by
 have hDI := hD.apart h
 have HB : Hid (BR w I l) := h
 have HD : Hid (DB w D d f) := hD
 have HG : Hid (DrG w N d f) := hG
 have HA0 : Hid (Amb w0) := hA0
 clear h hD hG hA0
 go_enter Tryz.func33,Tryz.ntmps33
 go_wp2_with fail
 refine (xxL I N 16 (by omega) xlM FunD.cod w0 w l HB.out hW.1 hNI hW.2 (ydQ I N w0 HA0.out hN4 hNI)).mono ?_
 intro r w1 ho
 rcases hx : xbP 16 xlM l with x | ⟨a,l1⟩
 ·obtain ⟨c,rfl⟩ := ho.err hx
  exact ⟨rfl,c.one,Or.inl ⟨x,xaW hx,rfl⟩⟩
 obtain ⟨c,⟨v,rfl,o,cap,L,rfl,hm,hl⟩,hb⟩ := ho.got hx
 have HD1 : Hid (DB w1 D d f) := HD.out.chg c hDI
 have y := HD1.out.cell 2
 have f0 := HD1.out.frozen 2
 have HX : Hid (xdD 10 (drV d f) l = .ok (drV { d with oF := o,cF := cap,funcs := L } f,l1)) := by
  unfold Hid
  show nxt (xbP 16 xlM) _ l = _
  rw [xaV hx,<- hm]
  rfl
 have HL := kZz hl
 have HG1 : Hid (DrG w1 N d f) := HG.out.kp (Kp.reader HB.out c xdP (by decide))
 have HB1 : Hid (BR w1 I l1) := hb
 have HC : Hid (Chg I w w1) := c
 clear hx ho hb hm hl c HB HD HG HA0
 unfold drC at y
 simp only [List.getElem?_toArray,List.getElem?_cons_succ,List.getElem?_cons_zero] at y
 go_wp2
 go_end0
 have hS : Chg D w1 (w1.setCell ⟨D,2,none⟩ (.slice o L.length cap)) := Chg.set _ _ _ _
 have q : Kp xdP w1 (w1.setCell ⟨D,2,none⟩ (.slice o L.length cap)) := Kp.chg HD1.out hS _ (by decide)
 have hg := HG1.out.kp q
 have HL := HL.out.kp q (by decide) (fun d hd => hd.kp q (by decide) (by decide) (by decide))
 exact ⟨HC.out.two hS,Or.inr ⟨_,_,l1,HX.out,rfl,HD1.out.set2 o cap L,⟨hg.types,hg.imports,HL,hg.globals,hg.exports,hg.elems,hg.data,hg.ft,hg.table,hg.pages,hg.most,hg.start⟩,HB1.out.kp (Kp.chg HD1.out hS (fun t => t != 85) (by decide)) (by decide)⟩⟩
theorem yeF (D I N : Nat) (l : List Int) (w0 w : World) (hA0 : Amb w0) (hN4 : 4 <= N) (hNI : N <= I) (hW : Below N w0 w /\ N <= hsz w) (d : ModD) (f : NumD) (hD : DB w D d f) (hG : DrG w N d f) (h : BR w I l) :
  Calls Tryz.prog 33 #[.pointer (some ⟨D,0,none⟩),.int .u8 11,.pointer (some ⟨I,0,none⟩)] w (xeA D I N 11 d f l w) := by
 have hDI := hD.apart h
 have HB : Hid (BR w I l) := h
 have HD : Hid (DB w D d f) := hD
 have HG : Hid (DrG w N d f) := hG
 have HA0 : Hid (Amb w0) := hA0
 clear h hD hG hA0
 go_enter Tryz.func33,Tryz.ntmps33
 go_wp2_with fail
 refine (xxI I N 4 (by omega) xuR DatD.val w0 w l HB.out hW.1 hNI hW.2 (ydM I N w0 HA0.out hN4 hNI)).mono ?_
 intro r w1 ho
 rcases hx : xbP 4 xuR l with x | ⟨a,l1⟩
 ·obtain ⟨c,rfl⟩ := ho.err hx
  exact ⟨rfl,c.one,Or.inl ⟨x,xaW hx,rfl⟩⟩
 obtain ⟨c,⟨v,rfl,o,cap,L,rfl,hm,hl⟩,hb⟩ := ho.got hx
 have HD1 : Hid (DB w1 D d f) := HD.out.chg c hDI
 have y := HD1.out.cell 10
 have f0 := HD1.out.frozen 10
 have HX : Hid (xdD 11 (drV d f) l = .ok (drV { d with oD := o,cD := cap,data := L } f,l1)) := by
  unfold Hid
  show nxt (xbP 4 xuR) _ l = _
  rw [xaV hx,<- hm]
  rfl
 have HL := kZz hl
 have HG1 : Hid (DrG w1 N d f) := HG.out.kp (Kp.reader HB.out c xdP (by decide))
 have HB1 : Hid (BR w1 I l1) := hb
 have HC : Hid (Chg I w w1) := c
 clear hx ho hb hm hl c HB HD HG HA0
 unfold drC at y
 simp only [List.getElem?_toArray,List.getElem?_cons_succ,List.getElem?_cons_zero] at y
 go_wp2
 go_end0
 have hS : Chg D w1 (w1.setCell ⟨D,10,none⟩ (.slice o L.length cap)) := Chg.set _ _ _ _
 have q : Kp xdP w1 (w1.setCell ⟨D,10,none⟩ (.slice o L.length cap)) := Kp.chg HD1.out hS _ (by decide)
 have hg := HG1.out.kp q
 have HL := HL.out.kp q (by decide) (fun _ hd => hd)
 exact ⟨HC.out.two hS,Or.inr ⟨_,_,l1,HX.out,rfl,HD1.out.set10 o cap L,⟨hg.types,hg.imports,hg.funcs,hg.globals,hg.exports,hg.elems,HL,hg.ft,hg.table,hg.pages,hg.most,hg.start⟩,HB1.out.kp (Kp.chg HD1.out hS (fun t => t != 85) (by decide)) (by decide)⟩⟩
theorem yaF (D I N : Nat) (l : List Int) (w0 w : World) (hA0 : Amb w0) (hN4 : 4 <= N) (hNI : N <= I) (hW : Below N w0 w /\ N <= hsz w) (d : ModD) (f : NumD) (hD : DB w D d f) (hG : DrG w N d f) (h : BR w I l) (n : Nat) (h1 : 1 <= n) (h2 : n <= 11) :
  Calls Tryz.prog 33 #[.pointer (some ⟨D,0,none⟩),.int .u8 (n : Int),.pointer (some ⟨I,0,none⟩)] w (xeA D I N n d f l w) :=
 yiF (p := fun n => Calls Tryz.prog 33 #[.pointer (some ⟨D,0,none⟩),.int .u8 (n : Int),.pointer (some ⟨I,0,none⟩)] w (xeA D I N n d f l w))
  (yiG D I N l w0 w hA0 hN4 hNI hW d f hD hG h) (yiH D I N l w0 w hA0 hN4 hNI hW d f hD hG h) (yiI D I N l w0 w hA0 hN4 hNI hW d f hD hG h) (yiJ D I N l w d f hD hG h) (yiK D I N l w d f hD hG h) (yiL D I N l w0 w hA0 hN4 hNI hW d f hD hG h)
  (yiM D I N l w0 w hA0 hN4 hNI hW d f hD hG h) (yiN D I N l w d f hD hG h) (yiO D I N l w0 w hA0 hN4 hNI hW d f hD hG h) (yeE D I N l w0 w hA0 hN4 hNI hW d f hD hG h) (yeF D I N l w0 w hA0 hN4 hNI hW d f hD hG h) n h1 h2
end Go.Proofs.YtmmjgdaamkdncaaGreatDoor
