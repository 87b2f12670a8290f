import Derived.Test.YtmmjgdaamkdncaaGreatDoorAQX
namespace Go.Proofs.YtmmjgdaamkdncaaGreatDoor
set_option maxHeartbeats 4000000
set_option maxRecDepth 1000000
set_option linter.unusedVariables false
open Go.RowKit
def far (T : TypeId) (t : TypeId) : Bool := t != T && t != 40
def SigG (w : World) (d : SigD) : Prop := NumG .u8 57 w d.i /\ NumG .u8 57 w d.r
def EleG (w : World) (d : EleD) : Prop := inI d.a /\ NumG .i64 3 w d.f
def FunG (w : World) (d : FunD) : Prop := inI d.t /\ NumG .u8 57 w d.l /\ ∃ B,IR w B d.o d.b.length d.cap d.b
theorem IR.kp {w w' : World} {B k cap : Nat} {o : Option Addr} {L : List InsD} {S : TypeId -> Bool} (h : IR w B o k cap L) (q : Kp S w w') (h2 : S 2 = true) (h3 : S 100 = true) : IR w' B o k cap L :=
 h.keep q.size (fun j cur f hj => q.blk j cur 2 f hj h2) (fun j cur f hj => q.blk j cur _ f hj h3)
theorem SigG.kp {w w' : World} {d : SigD} {S : TypeId -> Bool} (h : SigG w d) (q : Kp S w w') (hS : S 57 = true) : SigG w' d := ⟨h.1.kp q hS,h.2.kp q hS⟩
theorem EleG.kp {w w' : World} {d : EleD} {S : TypeId -> Bool} (h : EleG w d) (q : Kp S w w') (hS : S 3 = true) : EleG w' d := ⟨h.1,h.2.kp q hS⟩
theorem FunG.kp {w w' : World} {d : FunD} {S : TypeId -> Bool} (h : FunG w d) (q : Kp S w w') (h1 : S 57 = true) (h2 : S 2 = true) (h3 : S 100 = true) : FunG w' d := ⟨h.1,h.2.1.kp q h1,let ⟨B,hI⟩ := h.2.2; ⟨B,hI.kp q h2 h3⟩⟩
theorem Kp.reader {w w' : World} {P : Nat} {l : List Int} (h : BR w P l) (c : Chg P w w') (S : TypeId -> Bool) (hS : S 40 = false) : Kp S w w' := by
 obtain ⟨s,_,_,h⟩ := h
 exact Kp.chg h c S hS
theorem BR.kp {w w' : World} {P : Nat} {l : List Int} {S : TypeId -> Bool} (h : BR w P l) (q : Kp S w w') (hS : S 40 = true) : BR w' P l := by
 obtain ⟨s,h1,h2,h⟩ := h
 refine ⟨s,h1,h2,?_⟩
 unfold BS at h ⊢
 rw [q.blk _ _ _ _ h hS]
 exact h
theorem Chg.grown2 {w w1 w2 : World} {P B n k cap : Nat} {o : Option Addr} {T : TypeId} {xs : List Value} (c : Chg P w w1) (h : w1.ownsRow B T k (.slice o n cap) n xs) (g : w1.grownBy w2 (Value.slice o n cap).ownBlock) (hB : w.heap.size <= B) : Chg P w w2 :=
 ⟨g.os.trans c.os,g.tape.trans c.tape,g.output.trans c.output,Nat.le_trans c.size g.size,fun j hj hP => by
  rw [g.block j (Nat.lt_of_lt_of_le hj c.size) (fun e => by
   rcases h.2 with ⟨h1,_⟩ | ⟨b,cc,cu,h1,h2,_⟩
   ·rw [h1] at e
    simp [Value.ownBlock] at e
   ·rw [h1] at e
    simp only [Value.ownBlock,Option.some.injEq] at e
    omega)]
  exact c.block j hj hP⟩
def xlX {D α : Type} (N : Nat) (t : TypeId) (k : Nat) (cs : D -> List Value) (ok : World -> D -> Prop) (val : D -> α) (a : List α) (w : World) (v : Value) : Prop :=
 ∃ (o : Option Addr) (cap : Nat) (L : List D),v = .slice o L.length cap /\ L.map val = a /\ LR w N t k cs ok o L.length cap L
theorem xcS {α : Type} {p : Rd α} {n : Nat} {acc : List α} {l : List Int} {e : Int} (hn : 0 < n) (h : p l = .error e) : xaS p n acc l = .error e := by
 obtain ⟨m,rfl⟩ : ∃ m,n = m + 1 := ⟨n - 1,by omega⟩
 rw [xaS]
 dsimp only
 rw [h]
theorem xcT {α : Type} {p : Rd α} {n : Nat} {acc : List α} {l r : List Int} {a : α} (hn : 0 < n) (h : p l = .ok (a,r)) : xaS p n acc l = xaS p (n - 1) (acc ++ [a]) r := by
 obtain ⟨m,rfl⟩ : ∃ m,n = m + 1 := ⟨n - 1,by omega⟩
 rw [xaS]
 dsimp only
 rw [h]
 rfl
theorem xaD {N P : Nat} {w0 w w' : World} (b : Below N w0 w) (c : Chg P w w') (hNP : N <= P) (hNw : N <= w.heap.size) : Below N w0 w' := b.trans (c.below hNP hNw)
theorem Tryz.infoLsig : (Tryz.prog.info? 67).map (fun i => (i.zero,i.size,i.bytes)) = some (some (.agg #[.slice none 0 0,.slice none 0 0]),2,48) := by kernel_rfl
theorem xxO {α : Type} (P N : Nat) (most : Int) (hmost : most <= 16) (p : Rd α) (val : SigD -> α) (w0 w : World) (l : List Int) (h : BR w P l) (hb : Below N w0 w) (hNP : N <= P) (hNw : N <= w.heap.size)
  (HONE : Hid (∀ l' w',BR w' P l' -> Below N w0 w' -> N <= w'.heap.size -> Calls Tryz.prog 49 #[.pointer (some ⟨P,0,none⟩)] w' (Out P (fun a w v => ∃ d : SigD,v = .agg #[.slice d.i.o d.i.n d.i.cap,.slice d.r.o d.r.n d.r.cap] /\ val d = a /\ SigG w d) (p l') w'))) :
  Calls Tryz.prog 48 #[.pointer (some ⟨P,0,none⟩),.int .i64 most,.func (.func 49) #[.pointer (some ⟨P,0,none⟩)] #[]] w (Out P (xlX N 67 2 SigD.cells SigG val) (xbP most p l) w) := by
 obtain ⟨i0,hi,hz0,hz1,hz2⟩ := info_parts Tryz.infoLsig
 have HC := kZz (xeX P most l w h)
 have HBY : Hid (Bts l) := h.byte
 have HBW : Hid (Below N w0 w) := hb
 clear h hb
 go_enter Tryz.func48,Tryz.ntmps48
 go_wp2_with fail
 refine HC.out.mono ?_
 clear HC
 intro r w1 ho
 cases hx : xbX most l with
 | error x =>
  obtain ⟨c,rfl⟩ := ho.err hx
  exact ⟨rfl,Out.mkE (xaW hx) c⟩
 | ok q =>
  obtain ⟨n,l1⟩ := q
  obtain ⟨c,⟨v,rfl,rfl⟩,hb1⟩ := ho.got hx
  obtain ⟨hn,_,_⟩ := (xbM most (by omega)).ok _ _ _ HBY.out hx
  have HX : Hid (xbP most p l = xaS p n.toNat [] l1) := xaV hx
  obtain ⟨m,rfl⟩ : ∃ m : Nat,n = (m : Int) := ⟨n.toNat,by omega⟩
  rw [Int.toNat_natCast] at HX
  have hm : m <= 16 := by omega
  have HB1 : Hid (BR w1 P l1) := hb1
  have HC1 : Hid (Chg P w w1) := c
  have hs1 := c.size
  clear hx ho hb1 c hn HBY
  go_wp2
  go_loopw [7,11] (fun ls iv wr => ∃ i cap : Nat,∃ o : Option Addr,∃ L : List SigD,∃ li : List Int,ls = .slice o i cap /\ iv = .int .i64 (i : Int) /\ i <= m /\ Hid (LR wr w.heap.size 67 2 SigD.cells SigG o i cap L) /\ Hid (BR wr P li) /\ Hid (xaS p m [] l1 = xaS p (m - i) (L.map val) li) /\ Hid (Chg P w wr)) (fun _ iv _ => m - (intOf iv).toNat)
  case atStart => exact ⟨0,0,none,[],l1,rfl,rfl,by omega,LR.nil _ _ _ _ _ _,HB1,rfl,HC1⟩
  case round =>
   obtain ⟨i,cap,o,L,li,rfl,rfl,him,HL,HB,HT,HW⟩ := hrel
   clear HB1 HC1 hs1
   have hsr := HW.out.size
   by_cases hlt : i < m
   ·have hcl := (HL.out.capm).1
    have hcm := (HL.out.capm).2
    unfold maxLen at hcm
    go_wp2_with fail
    refine (HONE.out li _ HB.out (xaD HBW.out HW.out hNP hNw) (by omega)).mono ?_
    intro r w2 ho
    cases hx : p li with
    | error x =>
     obtain ⟨c,rfl⟩ := ho.err hx
     exact ⟨rfl,Out.mkE (HX.out.trans (HT.out.trans (xcS (by omega) hx))) (HW.out.trans c)⟩
    | ok q =>
    obtain ⟨a,l2⟩ := q
    obtain ⟨c,⟨v,rfl,d,hvd,hva,hok⟩,hb2⟩ := ho.got hx
    have HT2 : Hid (xaS p m [] l1 = xaS p (m - i - 1) (L.map val ++ [a]) l2) := HT.out.trans (xcT (by omega) hx)
    have q : Kp (far 67) wr w2 := Kp.reader HB.out c _ (by decide)
    have HL2 : Hid (LR w2 w.heap.size 67 2 SigD.cells SigG o i cap L) := by
     have q1 : Kp (fun t => t != 40) wr w2 := Kp.reader HB.out c _ (by decide)
     exact HL.out.kp q1 (by decide) (fun d hd => hd.kp q (by decide))
    have HB2 : Hid (BR w2 P l2) := hb2
    have HW2 : Hid (Chg P w w2) := HW.out.trans c
    have hs2 := c.size
    obtain ⟨d0,hd0⟩ : ∃ d0,d0 = d := ⟨_,rfl⟩
    have HD : Hid (val d0 = a /\ SigG w2 d0) := by rw [hd0]; exact ⟨hva,hok⟩
    obtain ⟨⟨o1,n1,c1,x1⟩,⟨o2,n2,c2,x2⟩⟩ := d
    have HDC : Hid (SigD.cells d0 = [.slice o1 n1 c1,.slice o2 n2 c2]) := by rw [hd0]; rfl
    clear hd0 hva hok
    dsimp only at hvd
    subst hvd
    clear q c hb2 ho hx HL HB HW HT
    have bA : Below w2.heap.size w2 (w2.alloc (.cells #[.slice o1 n1 c1,.slice o2 n2 c2] 67)) := (Below.refl _ _).alloc (Nat.le_refl _) _
    have HBA := kZz bA
    clear bA
    go_wp2_with (at_builtin; refine wpList_append_lies _ rfl _ _ 22 rfl w.heap.size 67 i0 (.agg #[.slice none 0 0,.slice none 0 0]) 2 48 Tryz.underlying22 hi hz0 hz1 hz2 rfl (by omega) _ i (L.flatMap SigD.cells) rfl (HL2.out.own.alloc _) ⟨w2.heap.size,0,none⟩ 1 1 [.slice o1 n1 c1,.slice o2 n2 c2] rfl rfl (World.news_of_block (cs := #[.slice o1 n1 c1,.slice o2 n2 c2]) (t := 67) (fr := (0,0)) (heap_alloc_new w2 _)) (by simp [Value.oneCell']) (by omega) (by unfold maxLen; omega) (by omega) (by simp; omega) (w2.heap.size + 1) (by simp) ?_)
    intro g capg w3 hown hgrow hat hlt3
    have qA : Kp (far 67) w2 w3 := (Kp.below _ HBA.out).trans (Kp.grown (HL2.out.own.alloc _) hgrow _ (by decide))
    have qB : Kp (fun t => t != 67) w2 w3 := (Kp.below _ HBA.out).trans (Kp.grown (HL2.out.own.alloc _) hgrow _ (by decide))
    have HL3 : Hid (LR w3 w.heap.size 67 2 SigD.cells SigG (some ⟨g,0,none⟩) (i + 1) capg (L ++ [d0])) := by
     have q := qA
     exact HL2.out.app (fun d hd => hd.kp q (by decide)) HD.out.2 (by rw [HDC.out]; exact hown)
    have HB3 : Hid (BR w3 P l2) := HB2.out.kp qB (by decide)
    have HW3 : Hid (Chg P w w3) := Chg.grown2 (HW2.out.trans (Chg.of_below HBA.out)) (HL2.out.own.alloc _) hgrow (Nat.le_refl _)
    have HT3 : Hid (xaS p m [] l1 = xaS p (m - (i + 1)) ((L ++ [d0]).map val) l2) := by
     unfold Hid
     rw [List.map_append,show m - (i + 1) = m - i - 1 by omega,HT2.out,show [d0].map val = [a] by rw [<- HD.out.1]; rfl]
    clear hown hgrow hat hlt3 qA qB HL2 HB2 HW2 HD HDC HBA HT2
    go_wp2
    go_roundw
    case rel => exact ⟨i + 1,capg,_,L ++ [d0],l2,rfl,by go_num,by omega,HL3,HB3,HT3,HW3⟩
    case measure => simp [intOf]; omega
   ·go_wp2
    go_ret
    have e : m - i = 0 := by omega
    have hT := HX.out.trans HT.out
    rw [e,xaS] at hT
    have hl := HL.out.len
    subst hl
    exact Out.mkO hT HW.out ⟨o,cap,L,rfl,rfl,⟨xbY HL.out.own hNw,HL.out.len,HL.out.ok⟩⟩ HB.out
theorem Tryz.infoLimp : (Tryz.prog.info? 71).map (fun i => (i.zero,i.size,i.bytes)) = some (some (.agg #[.string ⟨#[]⟩,.int .i64 0]),2,24) := by kernel_rfl
theorem xxN {α : Type} (P N : Nat) (most : Int) (hmost : most <= 16) (p : Rd α) (val : NamD -> α) (w0 w : World) (l : List Int) (h : BR w P l) (hb : Below N w0 w) (hNP : N <= P) (hNw : N <= w.heap.size)
  (HONE : Hid (∀ l' w',BR w' P l' -> Below N w0 w' -> N <= w'.heap.size -> Calls Tryz.prog 51 #[.pointer (some ⟨P,0,none⟩)] w' (Out P (fun a w v => ∃ d : NamD,v = .agg #[.string d.s,.int .i64 d.n] /\ val d = a /\ NamD.ok w d) (p l') w'))) :
  Calls Tryz.prog 50 #[.pointer (some ⟨P,0,none⟩),.int .i64 most,.func (.func 51) #[.pointer (some ⟨P,0,none⟩)] #[]] w (Out P (xlX N 71 2 NamD.cells NamD.ok val) (xbP most p l) w) := by
 obtain ⟨i0,hi,hz0,hz1,hz2⟩ := info_parts Tryz.infoLimp
 have HC := kZz (xeX P most l w h)
 have HBY : Hid (Bts l) := h.byte
 have HBW : Hid (Below N w0 w) := hb
 clear h hb
 go_enter Tryz.func50,Tryz.ntmps50
 go_wp2_with fail
 refine HC.out.mono ?_
 clear HC
 intro r w1 ho
 cases hx : xbX most l with
 | error x =>
  obtain ⟨c,rfl⟩ := ho.err hx
  exact ⟨rfl,Out.mkE (xaW hx) c⟩
 | ok q =>
  obtain ⟨n,l1⟩ := q
  obtain ⟨c,⟨v,rfl,rfl⟩,hb1⟩ := ho.got hx
  obtain ⟨hn,_,_⟩ := (xbM most (by omega)).ok _ _ _ HBY.out hx
  have HX : Hid (xbP most p l = xaS p n.toNat [] l1) := xaV hx
  obtain ⟨m,rfl⟩ : ∃ m : Nat,n = (m : Int) := ⟨n.toNat,by omega⟩
  rw [Int.toNat_natCast] at HX
  have hm : m <= 16 := by omega
  have HB1 : Hid (BR w1 P l1) := hb1
  have HC1 : Hid (Chg P w w1) := c
  have hs1 := c.size
  clear hx ho hb1 c hn HBY
  go_wp2
  go_loopw [7,11] (fun ls iv wr => ∃ i cap : Nat,∃ o : Option Addr,∃ L : List NamD,∃ li : List Int,ls = .slice o i cap /\ iv = .int .i64 (i : Int) /\ i <= m /\ Hid (LR wr w.heap.size 71 2 NamD.cells NamD.ok o i cap L) /\ Hid (BR wr P li) /\ Hid (xaS p m [] l1 = xaS p (m - i) (L.map val) li) /\ Hid (Chg P w wr)) (fun _ iv _ => m - (intOf iv).toNat)
  case atStart => exact ⟨0,0,none,[],l1,rfl,rfl,by omega,LR.nil _ _ _ _ _ _,HB1,rfl,HC1⟩
  case round =>
   obtain ⟨i,cap,o,L,li,rfl,rfl,him,HL,HB,HT,HW⟩ := hrel
   clear HB1 HC1 hs1
   have hsr := HW.out.size
   by_cases hlt : i < m
   ·have hcl := (HL.out.capm).1
    have hcm := (HL.out.capm).2
    unfold maxLen at hcm
    go_wp2_with fail
    refine (HONE.out li _ HB.out (xaD HBW.out HW.out hNP hNw) (by omega)).mono ?_
    intro r w2 ho
    cases hx : p li with
    | error x =>
     obtain ⟨c,rfl⟩ := ho.err hx
     exact ⟨rfl,Out.mkE (HX.out.trans (HT.out.trans (xcS (by omega) hx))) (HW.out.trans c)⟩
    | ok q =>
    obtain ⟨a,l2⟩ := q
    obtain ⟨c,⟨v,rfl,d,hvd,hva,hok⟩,hb2⟩ := ho.got hx
    have HT2 : Hid (xaS p m [] l1 = xaS p (m - i - 1) (L.map val ++ [a]) l2) := HT.out.trans (xcT (by omega) hx)
    have q : Kp (far 71) wr w2 := Kp.reader HB.out c _ (by decide)
    have HL2 : Hid (LR w2 w.heap.size 71 2 NamD.cells NamD.ok o i cap L) := by
     have q1 : Kp (fun t => t != 40) wr w2 := Kp.reader HB.out c _ (by decide)
     exact HL.out.kp q1 (by decide) (fun _ hd => hd)
    have HB2 : Hid (BR w2 P l2) := hb2
    have HW2 : Hid (Chg P w w2) := HW.out.trans c
    have hs2 := c.size
    obtain ⟨d0,hd0⟩ : ∃ d0,d0 = d := ⟨_,rfl⟩
    have HD : Hid (val d0 = a /\ NamD.ok w2 d0) := by rw [hd0]; exact ⟨hva,hok⟩
    obtain ⟨s1,n1⟩ := d
    have HDC : Hid (NamD.cells d0 = [.string s1,.int .i64 n1]) := by rw [hd0]; rfl
    clear hd0 hva hok
    dsimp only at hvd
    subst hvd
    clear q c hb2 ho hx HL HB HW HT
    have bA : Below w2.heap.size w2 (w2.alloc (.cells #[.string s1,.int .i64 n1] 71)) := (Below.refl _ _).alloc (Nat.le_refl _) _
    have HBA := kZz bA
    clear bA
    go_wp2_with (at_builtin; refine wpList_append_lies _ rfl _ _ 23 rfl w.heap.size 71 i0 (.agg #[.string ⟨#[]⟩,.int .i64 0]) 2 24 Tryz.underlying23 hi hz0 hz1 hz2 rfl (by omega) _ i (L.flatMap NamD.cells) rfl (HL2.out.own.alloc _) ⟨w2.heap.size,0,none⟩ 1 1 [.string s1,.int .i64 n1] rfl rfl (World.news_of_block (cs := #[.string s1,.int .i64 n1]) (t := 71) (fr := (0,0)) (heap_alloc_new w2 _)) (by simp [Value.oneCell']) (by omega) (by unfold maxLen; omega) (by omega) (by simp; omega) (w2.heap.size + 1) (by simp) ?_)
    intro g capg w3 hown hgrow hat hlt3
    have qA : Kp (far 71) w2 w3 := (Kp.below _ HBA.out).trans (Kp.grown (HL2.out.own.alloc _) hgrow _ (by decide))
    have qB : Kp (fun t => t != 71) w2 w3 := (Kp.below _ HBA.out).trans (Kp.grown (HL2.out.own.alloc _) hgrow _ (by decide))
    have HL3 : Hid (LR w3 w.heap.size 71 2 NamD.cells NamD.ok (some ⟨g,0,none⟩) (i + 1) capg (L ++ [d0])) := by
     have q := qA
     exact HL2.out.app (fun _ hd => hd) HD.out.2 (by rw [HDC.out]; exact hown)
    have HB3 : Hid (BR w3 P l2) := HB2.out.kp qB (by decide)
    have HW3 : Hid (Chg P w w3) := Chg.grown2 (HW2.out.trans (Chg.of_below HBA.out)) (HL2.out.own.alloc _) hgrow (Nat.le_refl _)
    have HT3 : Hid (xaS p m [] l1 = xaS p (m - (i + 1)) ((L ++ [d0]).map val) l2) := by
     unfold Hid
     rw [List.map_append,show m - (i + 1) = m - i - 1 by omega,HT2.out,show [d0].map val = [a] by rw [<- HD.out.1]; rfl]
    clear hown hgrow hat hlt3 qA qB HL2 HB2 HW2 HD HDC HBA HT2
    go_wp2
    go_roundw
    case rel => exact ⟨i + 1,capg,_,L ++ [d0],l2,rfl,by go_num,by omega,HL3,HB3,HT3,HW3⟩
    case measure => simp [intOf]; omega
   ·go_wp2
    go_ret
    have e : m - i = 0 := by omega
    have hT := HX.out.trans HT.out
    rw [e,xaS] at hT
    have hl := HL.out.len
    subst hl
    exact Out.mkO hT HW.out ⟨o,cap,L,rfl,rfl,⟨xbY HL.out.own hNw,HL.out.len,HL.out.ok⟩⟩ HB.out
theorem Tryz.infoLglo : (Tryz.prog.info? 75).map (fun i => (i.zero,i.size,i.bytes)) = some (some (.agg #[.int .u8 0,.bool false,.int .i64 0]),3,16) := by kernel_rfl
theorem xxM {α : Type} (P N : Nat) (most : Int) (hmost : most <= 16) (p : Rd α) (val : GloD -> α) (w0 w : World) (l : List Int) (h : BR w P l) (hb : Below N w0 w) (hNP : N <= P) (hNw : N <= w.heap.size)
  (HONE : Hid (∀ l' w',BR w' P l' -> Below N w0 w' -> N <= w'.heap.size -> Calls Tryz.prog 56 #[.pointer (some ⟨P,0,none⟩)] w' (Out P (fun a w v => ∃ d : GloD,v = .agg #[.int .u8 d.k,.bool d.m,.int .i64 d.s] /\ val d = a /\ GloD.ok w d) (p l') w'))) :
  Calls Tryz.prog 55 #[.pointer (some ⟨P,0,none⟩),.int .i64 most,.func (.func 56) #[.pointer (some ⟨P,0,none⟩)] #[]] w (Out P (xlX N 75 3 GloD.cells GloD.ok val) (xbP most p l) w) := by
 obtain ⟨i0,hi,hz0,hz1,hz2⟩ := info_parts Tryz.infoLglo
 have HC := kZz (xeX P most l w h)
 have HBY : Hid (Bts l) := h.byte
 have HBW : Hid (Below N w0 w) := hb
 clear h hb
 go_enter Tryz.func55,Tryz.ntmps55
 go_wp2_with fail
 refine HC.out.mono ?_
 clear HC
 intro r w1 ho
 cases hx : xbX most l with
 | error x =>
  obtain ⟨c,rfl⟩ := ho.err hx
  exact ⟨rfl,Out.mkE (xaW hx) c⟩
 | ok q =>
  obtain ⟨n,l1⟩ := q
  obtain ⟨c,⟨v,rfl,rfl⟩,hb1⟩ := ho.got hx
  obtain ⟨hn,_,_⟩ := (xbM most (by omega)).ok _ _ _ HBY.out hx
  have HX : Hid (xbP most p l = xaS p n.toNat [] l1) := xaV hx
  obtain ⟨m,rfl⟩ : ∃ m : Nat,n = (m : Int) := ⟨n.toNat,by omega⟩
  rw [Int.toNat_natCast] at HX
  have hm : m <= 16 := by omega
  have HB1 : Hid (BR w1 P l1) := hb1
  have HC1 : Hid (Chg P w w1) := c
  have hs1 := c.size
  clear hx ho hb1 c hn HBY
  go_wp2
  go_loopw [7,11] (fun ls iv wr => ∃ i cap : Nat,∃ o : Option Addr,∃ L : List GloD,∃ li : List Int,ls = .slice o i cap /\ iv = .int .i64 (i : Int) /\ i <= m /\ Hid (LR wr w.heap.size 75 3 GloD.cells GloD.ok o i cap L) /\ Hid (BR wr P li) /\ Hid (xaS p m [] l1 = xaS p (m - i) (L.map val) li) /\ Hid (Chg P w wr)) (fun _ iv _ => m - (intOf iv).toNat)
  case atStart => exact ⟨0,0,none,[],l1,rfl,rfl,by omega,LR.nil _ _ _ _ _ _,HB1,rfl,HC1⟩
  case round =>
   obtain ⟨i,cap,o,L,li,rfl,rfl,him,HL,HB,HT,HW⟩ := hrel
   clear HB1 HC1 hs1
   have hsr := HW.out.size
   by_cases hlt : i < m
   ·have hcl := (HL.out.capm).1
    have hcm := (HL.out.capm).2
    unfold maxLen at hcm
    go_wp2_with fail
    refine (HONE.out li _ HB.out (xaD HBW.out HW.out hNP hNw) (by omega)).mono ?_
    intro r w2 ho
    cases hx : p li with
    | error x =>
     obtain ⟨c,rfl⟩ := ho.err hx
     exact ⟨rfl,Out.mkE (HX.out.trans (HT.out.trans (xcS (by omega) hx))) (HW.out.trans c)⟩
    | ok q =>
    obtain ⟨a,l2⟩ := q
    obtain ⟨c,⟨v,rfl,d,hvd,hva,hok⟩,hb2⟩ := ho.got hx
    have HT2 : Hid (xaS p m [] l1 = xaS p (m - i - 1) (L.map val ++ [a]) l2) := HT.out.trans (xcT (by omega) hx)
    have q : Kp (far 75) wr w2 := Kp.reader HB.out c _ (by decide)
    have HL2 : Hid (LR w2 w.heap.size 75 3 GloD.cells GloD.ok o i cap L) := by
     have q1 : Kp (fun t => t != 40) wr w2 := Kp.reader HB.out c _ (by decide)
     exact HL.out.kp q1 (by decide) (fun _ hd => hd)
    have HB2 : Hid (BR w2 P l2) := hb2
    have HW2 : Hid (Chg P w w2) := HW.out.trans c
    have hs2 := c.size
    obtain ⟨d0,hd0⟩ : ∃ d0,d0 = d := ⟨_,rfl⟩
    have HD : Hid (val d0 = a /\ GloD.ok w2 d0) := by rw [hd0]; exact ⟨hva,hok⟩
    obtain ⟨k1,m1,s1⟩ := d
    have HDC : Hid (GloD.cells d0 = [.int .u8 k1,.bool m1,.int .i64 s1]) := by rw [hd0]; rfl
    clear hd0 hva hok
    dsimp only at hvd
    subst hvd
    clear q c hb2 ho hx HL HB HW HT
    have bA : Below w2.heap.size w2 (w2.alloc (.cells #[.int .u8 k1,.bool m1,.int .i64 s1] 75)) := (Below.refl _ _).alloc (Nat.le_refl _) _
    have HBA := kZz bA
    clear bA
    go_wp2_with (at_builtin; refine wpList_append_lies _ rfl _ _ 25 rfl w.heap.size 75 i0 (.agg #[.int .u8 0,.bool false,.int .i64 0]) 3 16 Tryz.underlying25 hi hz0 hz1 hz2 rfl (by omega) _ i (L.flatMap GloD.cells) rfl (HL2.out.own.alloc _) ⟨w2.heap.size,0,none⟩ 1 1 [.int .u8 k1,.bool m1,.int .i64 s1] rfl rfl (World.news_of_block (cs := #[.int .u8 k1,.bool m1,.int .i64 s1]) (t := 75) (fr := (0,0)) (heap_alloc_new w2 _)) (by simp [Value.oneCell']) (by omega) (by unfold maxLen; omega) (by omega) (by simp; omega) (w2.heap.size + 1) (by simp) ?_)
    intro g capg w3 hown hgrow hat hlt3
    have qA : Kp (far 75) w2 w3 := (Kp.below _ HBA.out).trans (Kp.grown (HL2.out.own.alloc _) hgrow _ (by decide))
    have qB : Kp (fun t => t != 75) w2 w3 := (Kp.below _ HBA.out).trans (Kp.grown (HL2.out.own.alloc _) hgrow _ (by decide))
    have HL3 : Hid (LR w3 w.heap.size 75 3 GloD.cells GloD.ok (some ⟨g,0,none⟩) (i + 1) capg (L ++ [d0])) := by
     have q := qA
     exact HL2.out.app (fun _ hd => hd) HD.out.2 (by rw [HDC.out]; exact hown)
    have HB3 : Hid (BR w3 P l2) := HB2.out.kp qB (by decide)
    have HW3 : Hid (Chg P w w3) := Chg.grown2 (HW2.out.trans (Chg.of_below HBA.out)) (HL2.out.own.alloc _) hgrow (Nat.le_refl _)
    have HT3 : Hid (xaS p m [] l1 = xaS p (m - (i + 1)) ((L ++ [d0]).map val) l2) := by
     unfold Hid
     rw [List.map_append,show m - (i + 1) = m - i - 1 by omega,HT2.out,show [d0].map val = [a] by rw [<- HD.out.1]; rfl]
    clear hown hgrow hat hlt3 qA qB HL2 HB2 HW2 HD HDC HBA HT2
    go_wp2
    go_roundw
    case rel => exact ⟨i + 1,capg,_,L ++ [d0],l2,rfl,by go_num,by omega,HL3,HB3,HT3,HW3⟩
    case measure => simp [intOf]; omega
   ·go_wp2
    go_ret
    have e : m - i = 0 := by omega
    have hT := HX.out.trans HT.out
    rw [e,xaS] at hT
    have hl := HL.out.len
    subst hl
    exact Out.mkO hT HW.out ⟨o,cap,L,rfl,rfl,⟨xbY HL.out.own hNw,HL.out.len,HL.out.ok⟩⟩ HB.out
theorem Tryz.infoLexp : (Tryz.prog.info? 78).map (fun i => (i.zero,i.size,i.bytes)) = some (some (.agg #[.string ⟨#[]⟩,.int .i64 0]),2,24) := by kernel_rfl
theorem xxK {α : Type} (P N : Nat) (most : Int) (hmost : most <= 16) (p : Rd α) (val : NamD -> α) (w0 w : World) (l : List Int) (h : BR w P l) (hb : Below N w0 w) (hNP : N <= P) (hNw : N <= w.heap.size)
  (HONE : Hid (∀ l' w',BR w' P l' -> Below N w0 w' -> N <= w'.heap.size -> Calls Tryz.prog 58 #[.pointer (some ⟨P,0,none⟩)] w' (Out P (fun a w v => ∃ d : NamD,v = .agg #[.string d.s,.int .i64 d.n] /\ val d = a /\ NamD.ok w d) (p l') w'))) :
  Calls Tryz.prog 57 #[.pointer (some ⟨P,0,none⟩),.int .i64 most,.func (.func 58) #[.pointer (some ⟨P,0,none⟩)] #[]] w (Out P (xlX N 78 2 NamD.cells NamD.ok val) (xbP most p l) w) := by
 obtain ⟨i0,hi,hz0,hz1,hz2⟩ := info_parts Tryz.infoLexp
 have HC := kZz (xeX P most l w h)
 have HBY : Hid (Bts l) := h.byte
 have HBW : Hid (Below N w0 w) := hb
 clear h hb
 go_enter Tryz.func57,Tryz.ntmps57
 go_wp2_with fail
 refine HC.out.mono ?_
 clear HC
 intro r w1 ho
 cases hx : xbX most l with
 | error x =>
  obtain ⟨c,rfl⟩ := ho.err hx
  exact ⟨rfl,Out.mkE (xaW hx) c⟩
 | ok q =>
  obtain ⟨n,l1⟩ := q
  obtain ⟨c,⟨v,rfl,rfl⟩,hb1⟩ := ho.got hx
  obtain ⟨hn,_,_⟩ := (xbM most (by omega)).ok _ _ _ HBY.out hx
  have HX : Hid (xbP most p l = xaS p n.toNat [] l1) := xaV hx
  obtain ⟨m,rfl⟩ : ∃ m : Nat,n = (m : Int) := ⟨n.toNat,by omega⟩
  rw [Int.toNat_natCast] at HX
  have hm : m <= 16 := by omega
  have HB1 : Hid (BR w1 P l1) := hb1
  have HC1 : Hid (Chg P w w1) := c
  have hs1 := c.size
  clear hx ho hb1 c hn HBY
  go_wp2
  go_loopw [7,11] (fun ls iv wr => ∃ i cap : Nat,∃ o : Option Addr,∃ L : List NamD,∃ li : List Int,ls = .slice o i cap /\ iv = .int .i64 (i : Int) /\ i <= m /\ Hid (LR wr w.heap.size 78 2 NamD.cells NamD.ok o i cap L) /\ Hid (BR wr P li) /\ Hid (xaS p m [] l1 = xaS p (m - i) (L.map val) li) /\ Hid (Chg P w wr)) (fun _ iv _ => m - (intOf iv).toNat)
  case atStart => exact ⟨0,0,none,[],l1,rfl,rfl,by omega,LR.nil _ _ _ _ _ _,HB1,rfl,HC1⟩
  case round =>
   obtain ⟨i,cap,o,L,li,rfl,rfl,him,HL,HB,HT,HW⟩ := hrel
   clear HB1 HC1 hs1
   have hsr := HW.out.size
   by_cases hlt : i < m
   ·have hcl := (HL.out.capm).1
    have hcm := (HL.out.capm).2
    unfold maxLen at hcm
    go_wp2_with fail
    refine (HONE.out li _ HB.out (xaD HBW.out HW.out hNP hNw) (by omega)).mono ?_
    intro r w2 ho
    cases hx : p li with
    | error x =>
     obtain ⟨c,rfl⟩ := ho.err hx
     exact ⟨rfl,Out.mkE (HX.out.trans (HT.out.trans (xcS (by omega) hx))) (HW.out.trans c)⟩
    | ok q =>
    obtain ⟨a,l2⟩ := q
    obtain ⟨c,⟨v,rfl,d,hvd,hva,hok⟩,hb2⟩ := ho.got hx
    have HT2 : Hid (xaS p m [] l1 = xaS p (m - i - 1) (L.map val ++ [a]) l2) := HT.out.trans (xcT (by omega) hx)
    have q : Kp (far 78) wr w2 := Kp.reader HB.out c _ (by decide)
    have HL2 : Hid (LR w2 w.heap.size 78 2 NamD.cells NamD.ok o i cap L) := by
     have q1 : Kp (fun t => t != 40) wr w2 := Kp.reader HB.out c _ (by decide)
     exact HL.out.kp q1 (by decide) (fun _ hd => hd)
    have HB2 : Hid (BR w2 P l2) := hb2
    have HW2 : Hid (Chg P w w2) := HW.out.trans c
    have hs2 := c.size
    obtain ⟨d0,hd0⟩ : ∃ d0,d0 = d := ⟨_,rfl⟩
    have HD : Hid (val d0 = a /\ NamD.ok w2 d0) := by rw [hd0]; exact ⟨hva,hok⟩
    obtain ⟨s1,n1⟩ := d
    have HDC : Hid (NamD.cells d0 = [.string s1,.int .i64 n1]) := by rw [hd0]; rfl
    clear hd0 hva hok
    dsimp only at hvd
    subst hvd
    clear q c hb2 ho hx HL HB HW HT
    have bA : Below w2.heap.size w2 (w2.alloc (.cells #[.string s1,.int .i64 n1] 78)) := (Below.refl _ _).alloc (Nat.le_refl _) _
    have HBA := kZz bA
    clear bA
    go_wp2_with (at_builtin; refine wpList_append_lies _ rfl _ _ 26 rfl w.heap.size 78 i0 (.agg #[.string ⟨#[]⟩,.int .i64 0]) 2 24 Tryz.underlying26 hi hz0 hz1 hz2 rfl (by omega) _ i (L.flatMap NamD.cells) rfl (HL2.out.own.alloc _) ⟨w2.heap.size,0,none⟩ 1 1 [.string s1,.int .i64 n1] rfl rfl (World.news_of_block (cs := #[.string s1,.int .i64 n1]) (t := 78) (fr := (0,0)) (heap_alloc_new w2 _)) (by simp [Value.oneCell']) (by omega) (by unfold maxLen; omega) (by omega) (by simp; omega) (w2.heap.size + 1) (by simp) ?_)
    intro g capg w3 hown hgrow hat hlt3
    have qA : Kp (far 78) w2 w3 := (Kp.below _ HBA.out).trans (Kp.grown (HL2.out.own.alloc _) hgrow _ (by decide))
    have qB : Kp (fun t => t != 78) w2 w3 := (Kp.below _ HBA.out).trans (Kp.grown (HL2.out.own.alloc _) hgrow _ (by decide))
    have HL3 : Hid (LR w3 w.heap.size 78 2 NamD.cells NamD.ok (some ⟨g,0,none⟩) (i + 1) capg (L ++ [d0])) := by
     have q := qA
     exact HL2.out.app (fun _ hd => hd) HD.out.2 (by rw [HDC.out]; exact hown)
    have HB3 : Hid (BR w3 P l2) := HB2.out.kp qB (by decide)
    have HW3 : Hid (Chg P w w3) := Chg.grown2 (HW2.out.trans (Chg.of_below HBA.out)) (HL2.out.own.alloc _) hgrow (Nat.le_refl _)
    have HT3 : Hid (xaS p m [] l1 = xaS p (m - (i + 1)) ((L ++ [d0]).map val) l2) := by
     unfold Hid
     rw [List.map_append,show m - (i + 1) = m - i - 1 by omega,HT2.out,show [d0].map val = [a] by rw [<- HD.out.1]; rfl]
    clear hown hgrow hat hlt3 qA qB HL2 HB2 HW2 HD HDC HBA HT2
    go_wp2
    go_roundw
    case rel => exact ⟨i + 1,capg,_,L ++ [d0],l2,rfl,by go_num,by omega,HL3,HB3,HT3,HW3⟩
    case measure => simp [intOf]; omega
   ·go_wp2
    go_ret
    have e : m - i = 0 := by omega
    have hT := HX.out.trans HT.out
    rw [e,xaS] at hT
    have hl := HL.out.len
    subst hl
    exact Out.mkO hT HW.out ⟨o,cap,L,rfl,rfl,⟨xbY HL.out.own hNw,HL.out.len,HL.out.ok⟩⟩ HB.out
theorem Tryz.infoLele : (Tryz.prog.info? 62).map (fun i => (i.zero,i.size,i.bytes)) = some (some (.agg #[.int .i64 0,.slice none 0 0]),2,32) := by kernel_rfl
theorem xxJ {α : Type} (P N : Nat) (most : Int) (hmost : most <= 16) (p : Rd α) (val : EleD -> α) (w0 w : World) (l : List Int) (h : BR w P l) (hb : Below N w0 w) (hNP : N <= P) (hNw : N <= w.heap.size)
  (HONE : Hid (∀ l' w',BR w' P l' -> Below N w0 w' -> N <= w'.heap.size -> Calls Tryz.prog 61 #[.pointer (some ⟨P,0,none⟩)] w' (Out P (fun a w v => ∃ d : EleD,v = .agg #[.int .i64 d.a,.slice d.f.o d.f.n d.f.cap] /\ val d = a /\ EleG w d) (p l') w'))) :
  Calls Tryz.prog 60 #[.pointer (some ⟨P,0,none⟩),.int .i64 most,.func (.func 61) #[.pointer (some ⟨P,0,none⟩)] #[]] w (Out P (xlX N 62 2 EleD.cells EleG val) (xbP most p l) w) := by
 obtain ⟨i0,hi,hz0,hz1,hz2⟩ := info_parts Tryz.infoLele
 have HC := kZz (xeX P most l w h)
 have HBY : Hid (Bts l) := h.byte
 have HBW : Hid (Below N w0 w) := hb
 clear h hb
 go_enter Tryz.func60,Tryz.ntmps60
 go_wp2_with fail
 refine HC.out.mono ?_
 clear HC
 intro r w1 ho
 cases hx : xbX most l with
 | error x =>
  obtain ⟨c,rfl⟩ := ho.err hx
  exact ⟨rfl,Out.mkE (xaW hx) c⟩
 | ok q =>
  obtain ⟨n,l1⟩ := q
  obtain ⟨c,⟨v,rfl,rfl⟩,hb1⟩ := ho.got hx
  obtain ⟨hn,_,_⟩ := (xbM most (by omega)).ok _ _ _ HBY.out hx
  have HX : Hid (xbP most p l = xaS p n.toNat [] l1) := xaV hx
  obtain ⟨m,rfl⟩ : ∃ m : Nat,n = (m : Int) := ⟨n.toNat,by omega⟩
  rw [Int.toNat_natCast] at HX
  have hm : m <= 16 := by omega
  have HB1 : Hid (BR w1 P l1) := hb1
  have HC1 : Hid (Chg P w w1) := c
  have hs1 := c.size
  clear hx ho hb1 c hn HBY
  go_wp2
  go_loopw [7,11] (fun ls iv wr => ∃ i cap : Nat,∃ o : Option Addr,∃ L : List EleD,∃ li : List Int,ls = .slice o i cap /\ iv = .int .i64 (i : Int) /\ i <= m /\ Hid (LR wr w.heap.size 62 2 EleD.cells EleG o i cap L) /\ Hid (BR wr P li) /\ Hid (xaS p m [] l1 = xaS p (m - i) (L.map val) li) /\ Hid (Chg P w wr)) (fun _ iv _ => m - (intOf iv).toNat)
  case atStart => exact ⟨0,0,none,[],l1,rfl,rfl,by omega,LR.nil _ _ _ _ _ _,HB1,rfl,HC1⟩
  case round =>
   obtain ⟨i,cap,o,L,li,rfl,rfl,him,HL,HB,HT,HW⟩ := hrel
   clear HB1 HC1 hs1
   have hsr := HW.out.size
   by_cases hlt : i < m
   ·have hcl := (HL.out.capm).1
    have hcm := (HL.out.capm).2
    unfold maxLen at hcm
    go_wp2_with fail
    refine (HONE.out li _ HB.out (xaD HBW.out HW.out hNP hNw) (by omega)).mono ?_
    intro r w2 ho
    cases hx : p li with
    | error x =>
     obtain ⟨c,rfl⟩ := ho.err hx
     exact ⟨rfl,Out.mkE (HX.out.trans (HT.out.trans (xcS (by omega) hx))) (HW.out.trans c)⟩
    | ok q =>
    obtain ⟨a,l2⟩ := q
    obtain ⟨c,⟨v,rfl,d,hvd,hva,hok⟩,hb2⟩ := ho.got hx
    have HT2 : Hid (xaS p m [] l1 = xaS p (m - i - 1) (L.map val ++ [a]) l2) := HT.out.trans (xcT (by omega) hx)
    have q : Kp (far 62) wr w2 := Kp.reader HB.out c _ (by decide)
    have HL2 : Hid (LR w2 w.heap.size 62 2 EleD.cells EleG o i cap L) := by
     have q1 : Kp (fun t => t != 40) wr w2 := Kp.reader HB.out c _ (by decide)
     exact HL.out.kp q1 (by decide) (fun d hd => hd.kp q (by decide))
    have HB2 : Hid (BR w2 P l2) := hb2
    have HW2 : Hid (Chg P w w2) := HW.out.trans c
    have hs2 := c.size
    obtain ⟨d0,hd0⟩ : ∃ d0,d0 = d := ⟨_,rfl⟩
    have HD : Hid (val d0 = a /\ EleG w2 d0) := by rw [hd0]; exact ⟨hva,hok⟩
    obtain ⟨a1,⟨o2,n2,c2,x2⟩⟩ := d
    have HDC : Hid (EleD.cells d0 = [.int .i64 a1,.slice o2 n2 c2]) := by rw [hd0]; rfl
    clear hd0 hva hok
    dsimp only at hvd
    subst hvd
    clear q c hb2 ho hx HL HB HW HT
    have bA : Below w2.heap.size w2 (w2.alloc (.cells #[.int .i64 a1,.slice o2 n2 c2] 62)) := (Below.refl _ _).alloc (Nat.le_refl _) _
    have HBA := kZz bA
    clear bA
    go_wp2_with (at_builtin; refine wpList_append_lies _ rfl _ _ 27 rfl w.heap.size 62 i0 (.agg #[.int .i64 0,.slice none 0 0]) 2 32 Tryz.underlying27 hi hz0 hz1 hz2 rfl (by omega) _ i (L.flatMap EleD.cells) rfl (HL2.out.own.alloc _) ⟨w2.heap.size,0,none⟩ 1 1 [.int .i64 a1,.slice o2 n2 c2] rfl rfl (World.news_of_block (cs := #[.int .i64 a1,.slice o2 n2 c2]) (t := 62) (fr := (0,0)) (heap_alloc_new w2 _)) (by simp [Value.oneCell']) (by omega) (by unfold maxLen; omega) (by omega) (by simp; omega) (w2.heap.size + 1) (by simp) ?_)
    intro g capg w3 hown hgrow hat hlt3
    have qA : Kp (far 62) w2 w3 := (Kp.below _ HBA.out).trans (Kp.grown (HL2.out.own.alloc _) hgrow _ (by decide))
    have qB : Kp (fun t => t != 62) w2 w3 := (Kp.below _ HBA.out).trans (Kp.grown (HL2.out.own.alloc _) hgrow _ (by decide))
    have HL3 : Hid (LR w3 w.heap.size 62 2 EleD.cells EleG (some ⟨g,0,none⟩) (i + 1) capg (L ++ [d0])) := by
     have q := qA
     exact HL2.out.app (fun d hd => hd.kp q (by decide)) HD.out.2 (by rw [HDC.out]; exact hown)
    have HB3 : Hid (BR w3 P l2) := HB2.out.kp qB (by decide)
    have HW3 : Hid (Chg P w w3) := Chg.grown2 (HW2.out.trans (Chg.of_below HBA.out)) (HL2.out.own.alloc _) hgrow (Nat.le_refl _)
    have HT3 : Hid (xaS p m [] l1 = xaS p (m - (i + 1)) ((L ++ [d0]).map val) l2) := by
     unfold Hid
     rw [List.map_append,show m - (i + 1) = m - i - 1 by omega,HT2.out,show [d0].map val = [a] by rw [<- HD.out.1]; rfl]
    clear hown hgrow hat hlt3 qA qB HL2 HB2 HW2 HD HDC HBA HT2
    go_wp2
    go_roundw
    case rel => exact ⟨i + 1,capg,_,L ++ [d0],l2,rfl,by go_num,by omega,HL3,HB3,HT3,HW3⟩
    case measure => simp [intOf]; omega
   ·go_wp2
    go_ret
    have e : m - i = 0 := by omega
    have hT := HX.out.trans HT.out
    rw [e,xaS] at hT
    have hl := HL.out.len
    subst hl
    exact Out.mkO hT HW.out ⟨o,cap,L,rfl,rfl,⟨xbY HL.out.own hNw,HL.out.len,HL.out.ok⟩⟩ HB.out
theorem Tryz.infoLfun : (Tryz.prog.info? 55).map (fun i => (i.zero,i.size,i.bytes)) = some (some (.agg #[.int .i64 0,.slice none 0 0,.slice none 0 0]),3,56) := by kernel_rfl
theorem xxL {α : Type} (P N : Nat) (most : Int) (hmost : most <= 16) (p : Rd α) (val : FunD -> α) (w0 w : World) (l : List Int) (h : BR w P l) (hb : Below N w0 w) (hNP : N <= P) (hNw : N <= w.heap.size)
  (HONE : Hid (∀ l' w',BR w' P l' -> Below N w0 w' -> N <= w'.heap.size -> Calls Tryz.prog 63 #[.pointer (some ⟨P,0,none⟩)] w' (Out P (fun a w v => ∃ d : FunD,v = .agg #[.int .i64 d.t,.slice d.l.o d.l.n d.l.cap,.slice d.o d.b.length d.cap] /\ val d = a /\ FunG w d) (p l') w'))) :
  Calls Tryz.prog 62 #[.pointer (some ⟨P,0,none⟩),.int .i64 most,.func (.func 63) #[.pointer (some ⟨P,0,none⟩)] #[]] w (Out P (xlX N 55 3 FunD.cells FunG val) (xbP most p l) w) := by
 obtain ⟨i0,hi,hz0,hz1,hz2⟩ := info_parts Tryz.infoLfun
 have HC := kZz (xeX P most l w h)
 have HBY : Hid (Bts l) := h.byte
 have HBW : Hid (Below N w0 w) := hb
 clear h hb
 go_enter Tryz.func62,Tryz.ntmps62
 go_wp2_with fail
 refine HC.out.mono ?_
 clear HC
 intro r w1 ho
 cases hx : xbX most l with
 | error x =>
  obtain ⟨c,rfl⟩ := ho.err hx
  exact ⟨rfl,Out.mkE (xaW hx) c⟩
 | ok q =>
  obtain ⟨n,l1⟩ := q
  obtain ⟨c,⟨v,rfl,rfl⟩,hb1⟩ := ho.got hx
  obtain ⟨hn,_,_⟩ := (xbM most (by omega)).ok _ _ _ HBY.out hx
  have HX : Hid (xbP most p l = xaS p n.toNat [] l1) := xaV hx
  obtain ⟨m,rfl⟩ : ∃ m : Nat,n = (m : Int) := ⟨n.toNat,by omega⟩
  rw [Int.toNat_natCast] at HX
  have hm : m <= 16 := by omega
  have HB1 : Hid (BR w1 P l1) := hb1
  have HC1 : Hid (Chg P w w1) := c
  have hs1 := c.size
  clear hx ho hb1 c hn HBY
  go_wp2
  go_loopw [7,11] (fun ls iv wr => ∃ i cap : Nat,∃ o : Option Addr,∃ L : List FunD,∃ li : List Int,ls = .slice o i cap /\ iv = .int .i64 (i : Int) /\ i <= m /\ Hid (LR wr w.heap.size 55 3 FunD.cells FunG o i cap L) /\ Hid (BR wr P li) /\ Hid (xaS p m [] l1 = xaS p (m - i) (L.map val) li) /\ Hid (Chg P w wr)) (fun _ iv _ => m - (intOf iv).toNat)
  case atStart => exact ⟨0,0,none,[],l1,rfl,rfl,by omega,LR.nil _ _ _ _ _ _,HB1,rfl,HC1⟩
  case round =>
   obtain ⟨i,cap,o,L,li,rfl,rfl,him,HL,HB,HT,HW⟩ := hrel
   clear HB1 HC1 hs1
   have hsr := HW.out.size
   by_cases hlt : i < m
   ·have hcl := (HL.out.capm).1
    have hcm := (HL.out.capm).2
    unfold maxLen at hcm
    go_wp2_with fail
    refine (HONE.out li _ HB.out (xaD HBW.out HW.out hNP hNw) (by omega)).mono ?_
    intro r w2 ho
    cases hx : p li with
    | error x =>
     obtain ⟨c,rfl⟩ := ho.err hx
     exact ⟨rfl,Out.mkE (HX.out.trans (HT.out.trans (xcS (by omega) hx))) (HW.out.trans c)⟩
    | ok q =>
    obtain ⟨a,l2⟩ := q
    obtain ⟨c,⟨v,rfl,d,hvd,hva,hok⟩,hb2⟩ := ho.got hx
    have HT2 : Hid (xaS p m [] l1 = xaS p (m - i - 1) (L.map val ++ [a]) l2) := HT.out.trans (xcT (by omega) hx)
    have q : Kp (far 55) wr w2 := Kp.reader HB.out c _ (by decide)
    have HL2 : Hid (LR w2 w.heap.size 55 3 FunD.cells FunG o i cap L) := by
     have q1 : Kp (fun t => t != 40) wr w2 := Kp.reader HB.out c _ (by decide)
     exact HL.out.kp q1 (by decide) (fun d hd => hd.kp q (by decide) (by decide) (by decide))
    have HB2 : Hid (BR w2 P l2) := hb2
    have HW2 : Hid (Chg P w w2) := HW.out.trans c
    have hs2 := c.size
    obtain ⟨d0,hd0⟩ : ∃ d0,d0 = d := ⟨_,rfl⟩
    have HD : Hid (val d0 = a /\ FunG w2 d0) := by rw [hd0]; exact ⟨hva,hok⟩
    obtain ⟨t1,⟨o2,n2,c2,x2⟩,o3,c3,b3⟩ := d
    have HDC : Hid (FunD.cells d0 = [.int .i64 t1,.slice o2 n2 c2,.slice o3 b3.length c3]) := by rw [hd0]; rfl
    clear hd0 hva hok
    dsimp only at hvd
    subst hvd
    clear q c hb2 ho hx HL HB HW HT
    have bA : Below w2.heap.size w2 (w2.alloc (.cells #[.int .i64 t1,.slice o2 n2 c2,.slice o3 b3.length c3] 55)) := (Below.refl _ _).alloc (Nat.le_refl _) _
    have HBA := kZz bA
    clear bA
    go_wp2_with (at_builtin; refine wpList_append_lies _ rfl _ _ 24 rfl w.heap.size 55 i0 (.agg #[.int .i64 0,.slice none 0 0,.slice none 0 0]) 3 56 Tryz.underlying24 hi hz0 hz1 hz2 rfl (by omega) _ i (L.flatMap FunD.cells) rfl (HL2.out.own.alloc _) ⟨w2.heap.size,0,none⟩ 1 1 [.int .i64 t1,.slice o2 n2 c2,.slice o3 b3.length c3] rfl rfl (World.news_of_block (cs := #[.int .i64 t1,.slice o2 n2 c2,.slice o3 b3.length c3]) (t := 55) (fr := (0,0)) (heap_alloc_new w2 _)) (by simp [Value.oneCell']) (by omega) (by unfold maxLen; omega) (by omega) (by simp; omega) (w2.heap.size + 1) (by simp) ?_)
    intro g capg w3 hown hgrow hat hlt3
    have qA : Kp (far 55) w2 w3 := (Kp.below _ HBA.out).trans (Kp.grown (HL2.out.own.alloc _) hgrow _ (by decide))
    have qB : Kp (fun t => t != 55) w2 w3 := (Kp.below _ HBA.out).trans (Kp.grown (HL2.out.own.alloc _) hgrow _ (by decide))
    have HL3 : Hid (LR w3 w.heap.size 55 3 FunD.cells FunG (some ⟨g,0,none⟩) (i + 1) capg (L ++ [d0])) := by
     have q := qA
     exact HL2.out.app (fun d hd => hd.kp q (by decide) (by decide) (by decide)) HD.out.2 (by rw [HDC.out]; exact hown)
    have HB3 : Hid (BR w3 P l2) := HB2.out.kp qB (by decide)
    have HW3 : Hid (Chg P w w3) := Chg.grown2 (HW2.out.trans (Chg.of_below HBA.out)) (HL2.out.own.alloc _) hgrow (Nat.le_refl _)
    have HT3 : Hid (xaS p m [] l1 = xaS p (m - (i + 1)) ((L ++ [d0]).map val) l2) := by
     unfold Hid
     rw [List.map_append,show m - (i + 1) = m - i - 1 by omega,HT2.out,show [d0].map val = [a] by rw [<- HD.out.1]; rfl]
    clear hown hgrow hat hlt3 qA qB HL2 HB2 HW2 HD HDC HBA HT2
    go_wp2
    go_roundw
    case rel => exact ⟨i + 1,capg,_,L ++ [d0],l2,rfl,by go_num,by omega,HL3,HB3,HT3,HW3⟩
    case measure => simp [intOf]; omega
   ·go_wp2
    go_ret
    have e : m - i = 0 := by omega
    have hT := HX.out.trans HT.out
    rw [e,xaS] at hT
    have hl := HL.out.len
    subst hl
    exact Out.mkO hT HW.out ⟨o,cap,L,rfl,rfl,⟨xbY HL.out.own hNw,HL.out.len,HL.out.ok⟩⟩ HB.out
theorem Tryz.infoLdat : (Tryz.prog.info? 82).map (fun i => (i.zero,i.size,i.bytes)) = some (some (.agg #[.int .i64 0,.string ⟨#[]⟩]),2,24) := by kernel_rfl
theorem xxI {α : Type} (P N : Nat) (most : Int) (hmost : most <= 16) (p : Rd α) (val : DatD -> α) (w0 w : World) (l : List Int) (h : BR w P l) (hb : Below N w0 w) (hNP : N <= P) (hNw : N <= w.heap.size)
  (HONE : Hid (∀ l' w',BR w' P l' -> Below N w0 w' -> N <= w'.heap.size -> Calls Tryz.prog 65 #[.pointer (some ⟨P,0,none⟩)] w' (Out P (fun a w v => ∃ d : DatD,v = .agg #[.int .i64 d.a,.string d.s] /\ val d = a /\ DatD.ok w d) (p l') w'))) :
  Calls Tryz.prog 64 #[.pointer (some ⟨P,0,none⟩),.int .i64 most,.func (.func 65) #[.pointer (some ⟨P,0,none⟩)] #[]] w (Out P (xlX N 82 2 DatD.cells DatD.ok val) (xbP most p l) w) := by
 obtain ⟨i0,hi,hz0,hz1,hz2⟩ := info_parts Tryz.infoLdat
 have HC := kZz (xeX P most l w h)
 have HBY : Hid (Bts l) := h.byte
 have HBW : Hid (Below N w0 w) := hb
 clear h hb
 go_enter Tryz.func64,Tryz.ntmps64
 go_wp2_with fail
 refine HC.out.mono ?_
 clear HC
 intro r w1 ho
 cases hx : xbX most l with
 | error x =>
  obtain ⟨c,rfl⟩ := ho.err hx
  exact ⟨rfl,Out.mkE (xaW hx) c⟩
 | ok q =>
  obtain ⟨n,l1⟩ := q
  obtain ⟨c,⟨v,rfl,rfl⟩,hb1⟩ := ho.got hx
  obtain ⟨hn,_,_⟩ := (xbM most (by omega)).ok _ _ _ HBY.out hx
  have HX : Hid (xbP most p l = xaS p n.toNat [] l1) := xaV hx
  obtain ⟨m,rfl⟩ : ∃ m : Nat,n = (m : Int) := ⟨n.toNat,by omega⟩
  rw [Int.toNat_natCast] at HX
  have hm : m <= 16 := by omega
  have HB1 : Hid (BR w1 P l1) := hb1
  have HC1 : Hid (Chg P w w1) := c
  have hs1 := c.size
  clear hx ho hb1 c hn HBY
  go_wp2
  go_loopw [7,11] (fun ls iv wr => ∃ i cap : Nat,∃ o : Option Addr,∃ L : List DatD,∃ li : List Int,ls = .slice o i cap /\ iv = .int .i64 (i : Int) /\ i <= m /\ Hid (LR wr w.heap.size 82 2 DatD.cells DatD.ok o i cap L) /\ Hid (BR wr P li) /\ Hid (xaS p m [] l1 = xaS p (m - i) (L.map val) li) /\ Hid (Chg P w wr)) (fun _ iv _ => m - (intOf iv).toNat)
  case atStart => exact ⟨0,0,none,[],l1,rfl,rfl,by omega,LR.nil _ _ _ _ _ _,HB1,rfl,HC1⟩
  case round =>
   obtain ⟨i,cap,o,L,li,rfl,rfl,him,HL,HB,HT,HW⟩ := hrel
   clear HB1 HC1 hs1
   have hsr := HW.out.size
   by_cases hlt : i < m
   ·have hcl := (HL.out.capm).1
    have hcm := (HL.out.capm).2
    unfold maxLen at hcm
    go_wp2_with fail
    refine (HONE.out li _ HB.out (xaD HBW.out HW.out hNP hNw) (by omega)).mono ?_
    intro r w2 ho
    cases hx : p li with
    | error x =>
     obtain ⟨c,rfl⟩ := ho.err hx
     exact ⟨rfl,Out.mkE (HX.out.trans (HT.out.trans (xcS (by omega) hx))) (HW.out.trans c)⟩
    | ok q =>
    obtain ⟨a,l2⟩ := q
    obtain ⟨c,⟨v,rfl,d,hvd,hva,hok⟩,hb2⟩ := ho.got hx
    have HT2 : Hid (xaS p m [] l1 = xaS p (m - i - 1) (L.map val ++ [a]) l2) := HT.out.trans (xcT (by omega) hx)
    have q : Kp (far 82) wr w2 := Kp.reader HB.out c _ (by decide)
    have HL2 : Hid (LR w2 w.heap.size 82 2 DatD.cells DatD.ok o i cap L) := by
     have q1 : Kp (fun t => t != 40) wr w2 := Kp.reader HB.out c _ (by decide)
     exact HL.out.kp q1 (by decide) (fun _ hd => hd)
    have HB2 : Hid (BR w2 P l2) := hb2
    have HW2 : Hid (Chg P w w2) := HW.out.trans c
    have hs2 := c.size
    obtain ⟨d0,hd0⟩ : ∃ d0,d0 = d := ⟨_,rfl⟩
    have HD : Hid (val d0 = a /\ DatD.ok w2 d0) := by rw [hd0]; exact ⟨hva,hok⟩
    obtain ⟨a1,s1⟩ := d
    have HDC : Hid (DatD.cells d0 = [.int .i64 a1,.string s1]) := by rw [hd0]; rfl
    clear hd0 hva hok
    dsimp only at hvd
    subst hvd
    clear q c hb2 ho hx HL HB HW HT
    have bA : Below w2.heap.size w2 (w2.alloc (.cells #[.int .i64 a1,.string s1] 82)) := (Below.refl _ _).alloc (Nat.le_refl _) _
    have HBA := kZz bA
    clear bA
    go_wp2_with (at_builtin; refine wpList_append_lies _ rfl _ _ 28 rfl w.heap.size 82 i0 (.agg #[.int .i64 0,.string ⟨#[]⟩]) 2 24 Tryz.underlying28 hi hz0 hz1 hz2 rfl (by omega) _ i (L.flatMap DatD.cells) rfl (HL2.out.own.alloc _) ⟨w2.heap.size,0,none⟩ 1 1 [.int .i64 a1,.string s1] rfl rfl (World.news_of_block (cs := #[.int .i64 a1,.string s1]) (t := 82) (fr := (0,0)) (heap_alloc_new w2 _)) (by simp [Value.oneCell']) (by omega) (by unfold maxLen; omega) (by omega) (by simp; omega) (w2.heap.size + 1) (by simp) ?_)
    intro g capg w3 hown hgrow hat hlt3
    have qA : Kp (far 82) w2 w3 := (Kp.below _ HBA.out).trans (Kp.grown (HL2.out.own.alloc _) hgrow _ (by decide))
    have qB : Kp (fun t => t != 82) w2 w3 := (Kp.below _ HBA.out).trans (Kp.grown (HL2.out.own.alloc _) hgrow _ (by decide))
    have HL3 : Hid (LR w3 w.heap.size 82 2 DatD.cells DatD.ok (some ⟨g,0,none⟩) (i + 1) capg (L ++ [d0])) := by
     have q := qA
     exact HL2.out.app (fun _ hd => hd) HD.out.2 (by rw [HDC.out]; exact hown)
    have HB3 : Hid (BR w3 P l2) := HB2.out.kp qB (by decide)
    have HW3 : Hid (Chg P w w3) := Chg.grown2 (HW2.out.trans (Chg.of_below HBA.out)) (HL2.out.own.alloc _) hgrow (Nat.le_refl _)
    have HT3 : Hid (xaS p m [] l1 = xaS p (m - (i + 1)) ((L ++ [d0]).map val) l2) := by
     unfold Hid
     rw [List.map_append,show m - (i + 1) = m - i - 1 by omega,HT2.out,show [d0].map val = [a] by rw [<- HD.out.1]; rfl]
    clear hown hgrow hat hlt3 qA qB HL2 HB2 HW2 HD HDC HBA HT2
    go_wp2
    go_roundw
    case rel => exact ⟨i + 1,capg,_,L ++ [d0],l2,rfl,by go_num,by omega,HL3,HB3,HT3,HW3⟩
    case measure => simp [intOf]; omega
   ·go_wp2
    go_ret
    have e : m - i = 0 := by omega
    have hT := HX.out.trans HT.out
    rw [e,xaS] at hT
    have hl := HL.out.len
    subst hl
    exact Out.mkO hT HW.out ⟨o,cap,L,rfl,rfl,⟨xbY HL.out.own hNw,HL.out.len,HL.out.ok⟩⟩ HB.out
theorem Tryz.infoLkin : (Tryz.prog.info? 57).map (fun i => (i.zero,i.size,i.bytes)) = some (some (.int .u8 0),1,1) := by kernel_rfl
theorem xoF {α : Type} (P N : Nat) (most : Int) (hmost : most <= 16) (p : Rd α) (val : Int -> α) (w0 w : World) (l : List Int) (h : BR w P l) (hb : Below N w0 w) (hNP : N <= P) (hNw : N <= w.heap.size)
  (HONE : Hid (∀ l' w',BR w' P l' -> Below N w0 w' -> N <= w'.heap.size -> Calls Tryz.prog 76 #[.pointer (some ⟨P,0,none⟩)] w' (Out P (fun a w v => ∃ d : Int,v = .int .u8 d /\ val d = a /\ (fun (_ : World) (x : Int) => (Lit.int .u8 x).wf = true) w d) (p l') w'))) :
  Calls Tryz.prog 75 #[.pointer (some ⟨P,0,none⟩),.int .i64 most,.func (.func 76) #[.pointer (some ⟨P,0,none⟩)] #[]] w (Out P (xlX N 57 1 (fun x : Int => [Value.int .u8 x]) (fun (_ : World) (x : Int) => (Lit.int .u8 x).wf = true) val) (xbP most p l) w) := by
 obtain ⟨i0,hi,hz0,hz1,hz2⟩ := info_parts Tryz.infoLkin
 have HC := kZz (xeX P most l w h)
 have HBY : Hid (Bts l) := h.byte
 have HBW : Hid (Below N w0 w) := hb
 clear h hb
 go_enter Tryz.func75,Tryz.ntmps75
 go_wp2_with fail
 refine HC.out.mono ?_
 clear HC
 intro r w1 ho
 cases hx : xbX most l with
 | error x =>
  obtain ⟨c,rfl⟩ := ho.err hx
  exact ⟨rfl,Out.mkE (xaW hx) c⟩
 | ok q =>
  obtain ⟨n,l1⟩ := q
  obtain ⟨c,⟨v,rfl,rfl⟩,hb1⟩ := ho.got hx
  obtain ⟨hn,_,_⟩ := (xbM most (by omega)).ok _ _ _ HBY.out hx
  have HX : Hid (xbP most p l = xaS p n.toNat [] l1) := xaV hx
  obtain ⟨m,rfl⟩ : ∃ m : Nat,n = (m : Int) := ⟨n.toNat,by omega⟩
  rw [Int.toNat_natCast] at HX
  have hm : m <= 16 := by omega
  have HB1 : Hid (BR w1 P l1) := hb1
  have HC1 : Hid (Chg P w w1) := c
  have hs1 := c.size
  clear hx ho hb1 c hn HBY
  go_wp2
  go_loopw [7,11] (fun ls iv wr => ∃ i cap : Nat,∃ o : Option Addr,∃ L : List Int,∃ li : List Int,ls = .slice o i cap /\ iv = .int .i64 (i : Int) /\ i <= m /\ Hid (LR wr w.heap.size 57 1 (fun x : Int => [Value.int .u8 x]) (fun (_ : World) (x : Int) => (Lit.int .u8 x).wf = true) o i cap L) /\ Hid (BR wr P li) /\ Hid (xaS p m [] l1 = xaS p (m - i) (L.map val) li) /\ Hid (Chg P w wr)) (fun _ iv _ => m - (intOf iv).toNat)
  case atStart => exact ⟨0,0,none,[],l1,rfl,rfl,by omega,LR.nil _ _ _ _ _ _,HB1,rfl,HC1⟩
  case round =>
   obtain ⟨i,cap,o,L,li,rfl,rfl,him,HL,HB,HT,HW⟩ := hrel
   clear HB1 HC1 hs1
   have hsr := HW.out.size
   by_cases hlt : i < m
   ·have hcl := (HL.out.capm).1
    have hcm := (HL.out.capm).2
    unfold maxLen at hcm
    go_wp2_with fail
    refine (HONE.out li _ HB.out (xaD HBW.out HW.out hNP hNw) (by omega)).mono ?_
    intro r w2 ho
    cases hx : p li with
    | error x =>
     obtain ⟨c,rfl⟩ := ho.err hx
     exact ⟨rfl,Out.mkE (HX.out.trans (HT.out.trans (xcS (by omega) hx))) (HW.out.trans c)⟩
    | ok q =>
    obtain ⟨a,l2⟩ := q
    obtain ⟨c,⟨v,rfl,d,hvd,hva,hok⟩,hb2⟩ := ho.got hx
    have HT2 : Hid (xaS p m [] l1 = xaS p (m - i - 1) (L.map val ++ [a]) l2) := HT.out.trans (xcT (by omega) hx)
    have q : Kp (far 57) wr w2 := Kp.reader HB.out c _ (by decide)
    have HL2 : Hid (LR w2 w.heap.size 57 1 (fun x : Int => [Value.int .u8 x]) (fun (_ : World) (x : Int) => (Lit.int .u8 x).wf = true) o i cap L) := by
     have q1 : Kp (fun t => t != 40) wr w2 := Kp.reader HB.out c _ (by decide)
     exact HL.out.kp q1 (by decide) (fun _ hd => hd)
    have HB2 : Hid (BR w2 P l2) := hb2
    have HW2 : Hid (Chg P w w2) := HW.out.trans c
    have hs2 := c.size
    obtain ⟨d0,hd0⟩ : ∃ d0,d0 = d := ⟨_,rfl⟩
    have HD : Hid (val d0 = a /\ (fun (_ : World) (x : Int) => (Lit.int .u8 x).wf = true) w2 d0) := by rw [hd0]; exact ⟨hva,hok⟩
    have HDC : Hid ((fun x : Int => [Value.int .u8 x]) d0 = [.int .u8 d]) := by subst hd0; rfl
    clear hd0 hva hok
    subst hvd
    clear q c hb2 ho hx HL HB HW HT
    have bA : Below w2.heap.size w2 (w2.alloc (.cells #[.int .u8 d] 57)) := (Below.refl _ _).alloc (Nat.le_refl _) _
    have HBA := kZz bA
    clear bA
    go_wp2_with (at_builtin; refine wpList_append_lies _ rfl _ _ 52 rfl w.heap.size 57 i0 (.int .u8 0) 1 1 Tryz.underlying52 hi hz0 hz1 hz2 rfl (by omega) _ i (L.flatMap (fun x : Int => [Value.int .u8 x])) rfl (HL2.out.own.alloc _) ⟨w2.heap.size,0,none⟩ 1 1 [.int .u8 d] rfl rfl (World.news_of_block (cs := #[.int .u8 d]) (t := 57) (fr := (0,0)) (heap_alloc_new w2 _)) (by simp [Value.oneCell']) (by omega) (by unfold maxLen; omega) (by omega) (by simp; omega) (w2.heap.size + 1) (by simp) ?_)
    intro g capg w3 hown hgrow hat hlt3
    have qA : Kp (far 57) w2 w3 := (Kp.below _ HBA.out).trans (Kp.grown (HL2.out.own.alloc _) hgrow _ (by decide))
    have qB : Kp (fun t => t != 57) w2 w3 := (Kp.below _ HBA.out).trans (Kp.grown (HL2.out.own.alloc _) hgrow _ (by decide))
    have HL3 : Hid (LR w3 w.heap.size 57 1 (fun x : Int => [Value.int .u8 x]) (fun (_ : World) (x : Int) => (Lit.int .u8 x).wf = true) (some ⟨g,0,none⟩) (i + 1) capg (L ++ [d0])) := by
     have q := qA
     exact HL2.out.app (fun _ hd => hd) HD.out.2 (by rw [HDC.out]; exact hown)
    have HB3 : Hid (BR w3 P l2) := HB2.out.kp qB (by decide)
    have HW3 : Hid (Chg P w w3) := Chg.grown2 (HW2.out.trans (Chg.of_below HBA.out)) (HL2.out.own.alloc _) hgrow (Nat.le_refl _)
    have HT3 : Hid (xaS p m [] l1 = xaS p (m - (i + 1)) ((L ++ [d0]).map val) l2) := by
     unfold Hid
     rw [List.map_append,show m - (i + 1) = m - i - 1 by omega,HT2.out,show [d0].map val = [a] by rw [<- HD.out.1]; rfl]
    clear hown hgrow hat hlt3 qA qB HL2 HB2 HW2 HD HDC HBA HT2
    go_wp2
    go_roundw
    case rel => exact ⟨i + 1,capg,_,L ++ [d0],l2,rfl,by go_num,by omega,HL3,HB3,HT3,HW3⟩
    case measure => simp [intOf]; omega
   ·go_wp2
    go_ret
    have e : m - i = 0 := by omega
    have hT := HX.out.trans HT.out
    rw [e,xaS] at hT
    have hl := HL.out.len
    subst hl
    exact Out.mkO hT HW.out ⟨o,cap,L,rfl,rfl,⟨xbY HL.out.own hNw,HL.out.len,HL.out.ok⟩⟩ HB.out
theorem Tryz.infoLint : (Tryz.prog.info? 3).map (fun i => (i.zero,i.size,i.bytes)) = some (some (.int .i64 0),1,8) := by kernel_rfl
theorem xoE {α : Type} (P N : Nat) (most : Int) (hmost : most <= 16) (p : Rd α) (val : Int -> α) (w0 w : World) (l : List Int) (h : BR w P l) (hb : Below N w0 w) (hNP : N <= P) (hNw : N <= w.heap.size)
  (HONE : Hid (∀ l' w',BR w' P l' -> Below N w0 w' -> N <= w'.heap.size -> Calls Tryz.prog 47 #[.pointer (some ⟨P,0,none⟩)] w' (Out P (fun a w v => ∃ d : Int,v = .int .i64 d /\ val d = a /\ (fun (_ : World) (x : Int) => (Lit.int .i64 x).wf = true) w d) (p l') w'))) :
  Calls Tryz.prog 52 #[.pointer (some ⟨P,0,none⟩),.int .i64 most,.func (.func 47) #[.pointer (some ⟨P,0,none⟩)] #[]] w (Out P (xlX N 3 1 (fun x : Int => [Value.int .i64 x]) (fun (_ : World) (x : Int) => (Lit.int .i64 x).wf = true) val) (xbP most p l) w) := by
 obtain ⟨i0,hi,hz0,hz1,hz2⟩ := info_parts Tryz.infoLint
 have HC := kZz (xeX P most l w h)
 have HBY : Hid (Bts l) := h.byte
 have HBW : Hid (Below N w0 w) := hb
 clear h hb
 go_enter Tryz.func52,Tryz.ntmps52
 go_wp2_with fail
 refine HC.out.mono ?_
 clear HC
 intro r w1 ho
 cases hx : xbX most l with
 | error x =>
  obtain ⟨c,rfl⟩ := ho.err hx
  exact ⟨rfl,Out.mkE (xaW hx) c⟩
 | ok q =>
  obtain ⟨n,l1⟩ := q
  obtain ⟨c,⟨v,rfl,rfl⟩,hb1⟩ := ho.got hx
  obtain ⟨hn,_,_⟩ := (xbM most (by omega)).ok _ _ _ HBY.out hx
  have HX : Hid (xbP most p l = xaS p n.toNat [] l1) := xaV hx
  obtain ⟨m,rfl⟩ : ∃ m : Nat,n = (m : Int) := ⟨n.toNat,by omega⟩
  rw [Int.toNat_natCast] at HX
  have hm : m <= 16 := by omega
  have HB1 : Hid (BR w1 P l1) := hb1
  have HC1 : Hid (Chg P w w1) := c
  have hs1 := c.size
  clear hx ho hb1 c hn HBY
  go_wp2
  go_loopw [7,11] (fun ls iv wr => ∃ i cap : Nat,∃ o : Option Addr,∃ L : List Int,∃ li : List Int,ls = .slice o i cap /\ iv = .int .i64 (i : Int) /\ i <= m /\ Hid (LR wr w.heap.size 3 1 (fun x : Int => [Value.int .i64 x]) (fun (_ : World) (x : Int) => (Lit.int .i64 x).wf = true) o i cap L) /\ Hid (BR wr P li) /\ Hid (xaS p m [] l1 = xaS p (m - i) (L.map val) li) /\ Hid (Chg P w wr)) (fun _ iv _ => m - (intOf iv).toNat)
  case atStart => exact ⟨0,0,none,[],l1,rfl,rfl,by omega,LR.nil _ _ _ _ _ _,HB1,rfl,HC1⟩
  case round =>
   obtain ⟨i,cap,o,L,li,rfl,rfl,him,HL,HB,HT,HW⟩ := hrel
   clear HB1 HC1 hs1
   have hsr := HW.out.size
   by_cases hlt : i < m
   ·have hcl := (HL.out.capm).1
    have hcm := (HL.out.capm).2
    unfold maxLen at hcm
    go_wp2_with fail
    refine (HONE.out li _ HB.out (xaD HBW.out HW.out hNP hNw) (by omega)).mono ?_
    intro r w2 ho
    cases hx : p li with
    | error x =>
     obtain ⟨c,rfl⟩ := ho.err hx
     exact ⟨rfl,Out.mkE (HX.out.trans (HT.out.trans (xcS (by omega) hx))) (HW.out.trans c)⟩
    | ok q =>
    obtain ⟨a,l2⟩ := q
    obtain ⟨c,⟨v,rfl,d,hvd,hva,hok⟩,hb2⟩ := ho.got hx
    have HT2 : Hid (xaS p m [] l1 = xaS p (m - i - 1) (L.map val ++ [a]) l2) := HT.out.trans (xcT (by omega) hx)
    have q : Kp (far 3) wr w2 := Kp.reader HB.out c _ (by decide)
    have HL2 : Hid (LR w2 w.heap.size 3 1 (fun x : Int => [Value.int .i64 x]) (fun (_ : World) (x : Int) => (Lit.int .i64 x).wf = true) o i cap L) := by
     have q1 : Kp (fun t => t != 40) wr w2 := Kp.reader HB.out c _ (by decide)
     exact HL.out.kp q1 (by decide) (fun _ hd => hd)
    have HB2 : Hid (BR w2 P l2) := hb2
    have HW2 : Hid (Chg P w w2) := HW.out.trans c
    have hs2 := c.size
    obtain ⟨d0,hd0⟩ : ∃ d0,d0 = d := ⟨_,rfl⟩
    have HD : Hid (val d0 = a /\ (fun (_ : World) (x : Int) => (Lit.int .i64 x).wf = true) w2 d0) := by rw [hd0]; exact ⟨hva,hok⟩
    have HDC : Hid ((fun x : Int => [Value.int .i64 x]) d0 = [.int .i64 d]) := by subst hd0; rfl
    clear hd0 hva hok
    subst hvd
    clear q c hb2 ho hx HL HB HW HT
    have bA : Below w2.heap.size w2 (w2.alloc (.cells #[.int .i64 d] 3)) := (Below.refl _ _).alloc (Nat.le_refl _) _
    have HBA := kZz bA
    clear bA
    go_wp2_with (at_builtin; refine wpList_append_lies _ rfl _ _ 60 rfl w.heap.size 3 i0 (.int .i64 0) 1 8 Tryz.underlying60 hi hz0 hz1 hz2 rfl (by omega) _ i (L.flatMap (fun x : Int => [Value.int .i64 x])) rfl (HL2.out.own.alloc _) ⟨w2.heap.size,0,none⟩ 1 1 [.int .i64 d] rfl rfl (World.news_of_block (cs := #[.int .i64 d]) (t := 3) (fr := (0,0)) (heap_alloc_new w2 _)) (by simp [Value.oneCell']) (by omega) (by unfold maxLen; omega) (by omega) (by simp; omega) (w2.heap.size + 1) (by simp) ?_)
    intro g capg w3 hown hgrow hat hlt3
    have qA : Kp (far 3) w2 w3 := (Kp.below _ HBA.out).trans (Kp.grown (HL2.out.own.alloc _) hgrow _ (by decide))
    have qB : Kp (fun t => t != 3) w2 w3 := (Kp.below _ HBA.out).trans (Kp.grown (HL2.out.own.alloc _) hgrow _ (by decide))
    have HL3 : Hid (LR w3 w.heap.size 3 1 (fun x : Int => [Value.int .i64 x]) (fun (_ : World) (x : Int) => (Lit.int .i64 x).wf = true) (some ⟨g,0,none⟩) (i + 1) capg (L ++ [d0])) := by
     have q := qA
     exact HL2.out.app (fun _ hd => hd) HD.out.2 (by rw [HDC.out]; exact hown)
    have HB3 : Hid (BR w3 P l2) := HB2.out.kp qB (by decide)
    have HW3 : Hid (Chg P w w3) := Chg.grown2 (HW2.out.trans (Chg.of_below HBA.out)) (HL2.out.own.alloc _) hgrow (Nat.le_refl _)
    have HT3 : Hid (xaS p m [] l1 = xaS p (m - (i + 1)) ((L ++ [d0]).map val) l2) := by
     unfold Hid
     rw [List.map_append,show m - (i + 1) = m - i - 1 by omega,HT2.out,show [d0].map val = [a] by rw [<- HD.out.1]; rfl]
    clear hown hgrow hat hlt3 qA qB HL2 HB2 HW2 HD HDC HBA HT2
    go_wp2
    go_roundw
    case rel => exact ⟨i + 1,capg,_,L ++ [d0],l2,rfl,by go_num,by omega,HL3,HB3,HT3,HW3⟩
    case measure => simp [intOf]; omega
   ·go_wp2
    go_ret
    have e : m - i = 0 := by omega
    have hT := HX.out.trans HT.out
    rw [e,xaS] at hT
    have hl := HL.out.len
    subst hl
    exact Out.mkO hT HW.out ⟨o,cap,L,rfl,rfl,⟨xbY HL.out.own hNw,HL.out.len,HL.out.ok⟩⟩ HB.out
def X2 (T : TypeId) (w : World) (X : Nat) (c0 c1 : Value) : Prop := w.heap[X]? = some (.cells #[c0,c1] T (0,0))
def X3 (T : TypeId) (w : World) (X : Nat) (c0 c1 c2 : Value) : Prop := w.heap[X]? = some (.cells #[c0,c1,c2] T (0,0))
section
variable {T : TypeId} {w w' : World} {X P : Nat} {c0 c1 c2 : Value}
theorem X2.cell (h : X2 T w X c0 c1) : w.cell? ⟨X,0,none⟩ = some c0 /\ w.cell? ⟨X,1,none⟩ = some c1 := by
 unfold X2 at h
 simp [World.cell?,h]
theorem X2.frozen (h : X2 T w X c0 c1) (i : Nat) : w.frozen? ⟨X,i,none⟩ = false := by
 unfold X2 at h
 simp [World.frozen?,h]
theorem X2.chg (h : X2 T w X c0 c1) (c : Chg P w w') (hX : X ≠ P) : X2 T w' X c0 c1 := by
 unfold X2 at h ⊢
 rw [c.block X (xaU h) hX,h]
theorem X2.set0 (h : X2 T w X c0 c1) (v : Value) : X2 T (w.setCell ⟨X,0,none⟩ v) X v c1 := by
 unfold X2 at h ⊢
 simp [World.setCell,Array.getElem?_modify,h]
theorem X2.set1 (h : X2 T w X c0 c1) (v : Value) : X2 T (w.setCell ⟨X,1,none⟩ v) X c0 v := by
 unfold X2 at h ⊢
 simp [World.setCell,Array.getElem?_modify,h]
theorem X3.cell (h : X3 T w X c0 c1 c2) : w.cell? ⟨X,0,none⟩ = some c0 /\ w.cell? ⟨X,1,none⟩ = some c1 /\ w.cell? ⟨X,2,none⟩ = some c2 := by
 unfold X3 at h
 simp [World.cell?,h]
theorem X3.frozen (h : X3 T w X c0 c1 c2) (i : Nat) : w.frozen? ⟨X,i,none⟩ = false := by
 unfold X3 at h
 simp [World.frozen?,h]
theorem X3.chg (h : X3 T w X c0 c1 c2) (c : Chg P w w') (hX : X ≠ P) : X3 T w' X c0 c1 c2 := by
 unfold X3 at h ⊢
 rw [c.block X (xaU h) hX,h]
theorem X3.set0 (h : X3 T w X c0 c1 c2) (v : Value) : X3 T (w.setCell ⟨X,0,none⟩ v) X v c1 c2 := by
 unfold X3 at h ⊢
 simp [World.setCell,Array.getElem?_modify,h]
theorem X3.set1 (h : X3 T w X c0 c1 c2) (v : Value) : X3 T (w.setCell ⟨X,1,none⟩ v) X c0 v c2 := by
 unfold X3 at h ⊢
 simp [World.setCell,Array.getElem?_modify,h]
theorem X3.set2 (h : X3 T w X c0 c1 c2) (v : Value) : X3 T (w.setCell ⟨X,2,none⟩ v) X c0 c1 v := by
 unfold X3 at h ⊢
 simp [World.setCell,Array.getElem?_modify,h]
theorem Chg.new {Q : Nat} {w1 w2 : World} (c : Chg P w w1) (q : Chg Q w1 w2) (hQ : w.heap.size <= Q) : Chg P w w2 :=
 ⟨q.os.trans c.os,q.tape.trans c.tape,q.output.trans c.output,Nat.le_trans c.size q.size,fun k hk hP => by
  rw [q.block k (Nat.lt_of_lt_of_le hk c.size) (by omega)]
  exact c.block k hk hP⟩
end
theorem xcH {l r : List Int} {n : Int} (hl : Bts l) (h : xeG l = .ok (n,r)) : xfT n := (cod_num.ok _ _ _ hl h).1
def NamD.val (d : NamD) : NamV := ⟨xaX d.s,d.n⟩
def GloD.val (d : GloD) : GloV := ⟨d.k,d.m,d.s⟩
def DatD.val (d : DatD) : DatV := ⟨d.a,xaX d.s⟩
def EleD.val (d : EleD) : EleV := ⟨d.a,d.f.xs⟩
def SigD.val (d : SigD) : SigV := ⟨d.i.xs,d.r.xs⟩
def FunD.cod (d : FunD) : CodV := ⟨d.l.xs,d.b.map InsD.val⟩
abbrev hsz (w : World) : Nat := w.heap.size
theorem wOf {N P : Nat} {w0 w w' : World} (h : Below N w0 w /\ N <= hsz w) (c : Chg P w w') (hNP : N <= P) : Below N w0 w' /\ N <= hsz w' := ⟨xaD h.1 c hNP h.2,Nat.le_trans h.2 c.size⟩
theorem Out.imp {α : Type} {P : Nat} {V V' : α -> World -> Value -> Prop} {x : Except Int (α × List Int)} {w w' : World} {r : Ending} (h : Out P V x w r w') (hi : ∀ a l v,x = .ok (a,l) -> V a w' v -> V' a w' v) : Out P V' x w r w' := by
 cases x with
 | error e => exact h
 | ok q =>
  obtain ⟨a,l⟩ := q
  obtain ⟨c,⟨v,hr,hv⟩,hb⟩ := h
  exact ⟨c,⟨v,hr,hi a l v rfl hv⟩,hb⟩
theorem ybO {n : Int} (h : inI n) : (Lit.int .i64 n).wf = true := by
 have h1 := h.1
 have h2 := h.2
 have a : IntKind.i64.min = -9223372036854775808 := by decide
 have b : IntKind.i64.max = 9223372036854775807 := by decide
 simp [Lit.wf,a,b]
 omega
theorem xuM {n : Int} (h1 : 0 <= n) (h2 : n <= 255) : (Lit.int .u8 n).wf = true := by
 have a : IntKind.u8.min = 0 := by decide
 have b : IntKind.u8.max = 255 := by decide
 simp [Lit.wf,a,b]
 omega
def ymM (a : NamV) (w : World) (v : Value) : Prop := ∃ d : NamD,v = .agg #[.string d.s,.int .i64 d.n] /\ d.val = a /\ NamD.ok w d
theorem xiH {n : Int} (h : xfT n) : inI n := ⟨by have := h.1; omega,by have := h.2; omega⟩
theorem xwO {l r s : List Int} {T : ByteArray} (h : xdV l = .ok (s,r)) (hT : xaX T = s) : T.size <= maxLen := by
 obtain ⟨n,r1,h1,h2⟩ := xaJ h
 obtain ⟨p,r2,h3,h4⟩ := xaJ h2
 obtain ⟨_,r3,h5,h6⟩ := xaJ h4
 obtain ⟨_,rfl⟩ := xcI h5
 simp only [ret,Except.ok.injEq,Prod.mk.injEq] at h6
 obtain ⟨rfl,rfl⟩ := h6
 obtain ⟨k,r4,h7,h8⟩ := xaJ h1
 obtain ⟨_,r5,h9,h10⟩ := xaJ h8
 obtain ⟨h11,rfl⟩ := xcI h9
 simp only [ret,Except.ok.injEq,Prod.mk.injEq] at h10
 obtain ⟨rfl,rfl⟩ := h10
 have h11 := of_decide_eq_true h11
 unfold xbR at h3
 split at h3
 ·simp only [Except.ok.injEq,Prod.mk.injEq] at h3
  have := congrArg List.length hT
  rw [xaY,<- h3.1,List.length_take] at this
  unfold maxLen
  omega
 ·cases h3
theorem yfM (P : Nat) (l : List Int) (w : World) (h : BR w P l) (hA : Amb w) (hP4 : 4 <= P) :
  Calls Tryz.prog 58 #[.pointer (some ⟨P,0,none⟩)] w (Out P ymM (xtP l) w) := by
 have hPw := h.lt
 have HA0 := kZz hA
 clear hA
 have bA : Below w.heap.size w (w.alloc (.cells #[.string ⟨#[]⟩,.int .i64 0] 78)) := (Below.refl _ _).alloc (Nat.le_refl _) _
 have HB : Hid (BR (w.alloc (.cells #[.string ⟨#[]⟩,.int .i64 0] 78)) P l) := h.under bA
 have HC : Hid (Chg P w (w.alloc (.cells #[.string ⟨#[]⟩,.int .i64 0] 78))) := Chg.of_below bA
 have xQ : X2 78 (w.alloc (.cells #[.string ⟨#[]⟩,.int .i64 0] 78)) w.heap.size (.string ⟨#[]⟩) (.int .i64 0) := xaZ _ _
 have hQP : w.heap.size ≠ P := by omega
 clear bA
 clear h
 have HA : Hid (Amb _) := HA0.out.chg HC.out hP4
 clear HA0
 go_enter Tryz.func58,Tryz.ntmps58
 go_wp2_with fail
 refine (yfR P l _ HB.out HA.out).mono ?_
 intro r w1 ho
 rcases hx : xdV l with x | ⟨s0,l1⟩
 ·obtain ⟨c,rfl⟩ := ho.err hx
  exact ⟨rfl,Out.mkE (xaW hx) (HC.out.trans c)⟩
 obtain ⟨c,⟨v,rfl,T1,hT1,rfl⟩,hb⟩ := ho.got hx
 have HX1 : Hid (xtP l = _) := xaV hx
 have HX := kZz (HX1.out)
 clear HX1
 have xQ1 := xQ.chg c hQP
 clear xQ
 have xQ := xQ1
 clear xQ1
 have HC1 : Hid (Chg P w w1) := HC.out.trans c
 clear HC
 have HC : Hid (Chg P w w1) := HC1.out
 clear HC1
 have HA1 : Hid (Amb w1) := HA.out.chg c hP4
 clear HA
 have HA : Hid (Amb w1) := HA1.out
 clear HA1
 clear HB
 have HB : Hid (BR w1 P l1) := hb
 clear hb ho
 have HT1 : Hid (xaX T1 = s0) := hT1
 clear hT1
 have HK1 := kZz hx
 clear hx c
 go_wp2_with fail
 refine (xcA P l1 0 6 _ HB.out).mono ?_
 intro r w2 ho
 rcases hx : xfX 0 6 l1 with x | ⟨u0,l2⟩
 ·obtain ⟨c,rfl⟩ := ho.err hx
  exact ⟨rfl,Out.mkE (HX.out.trans (xaW hx)) (HC.out.trans c)⟩
 obtain ⟨c,⟨v,rfl,rfl⟩,hb⟩ := ho.got hx
 have HX1 : Hid (xtP l = _) := HX.out.trans (xaV hx)
 clear HX
 have HX := kZz (HX1.out)
 clear HX1
 have xQ1 := xQ.chg c hQP
 clear xQ
 have xQ := xQ1
 clear xQ1
 have HC1 : Hid (Chg P w w2) := HC.out.trans c
 clear HC
 have HC : Hid (Chg P w w2) := HC1.out
 clear HC1
 have HA1 : Hid (Amb w2) := HA.out.chg c hP4
 clear HA
 have HA : Hid (Amb w2) := HA1.out
 clear HA1
 clear HB
 have HB : Hid (BR w2 P l2) := hb
 clear hb ho
 have HK2 := kZz hx
 clear hx c
 have HBY : Hid (Bts l2) := HB.out.byte
 go_wp2_with fail
 refine (xgZ P l2 _ HB.out).mono ?_
 intro r w3 ho
 rcases hx : xeG l2 with x | ⟨n0,l3⟩
 ·obtain ⟨c,rfl⟩ := ho.err hx
  exact ⟨rfl,Out.mkE (HX.out.trans (xaW hx)) (HC.out.trans c)⟩
 obtain ⟨c,⟨v,rfl,rfl⟩,hb⟩ := ho.got hx
 have HX1 : Hid (xtP l = _) := HX.out.trans (xaV hx)
 clear HX
 have HX := kZz (HX1.out)
 clear HX1
 have xQ1 := xQ.chg c hQP
 clear xQ
 have xQ := xQ1
 clear xQ1
 have HC1 : Hid (Chg P w w3) := HC.out.trans c
 clear HC
 have HC : Hid (Chg P w w3) := HC1.out
 clear HC1
 have HA1 : Hid (Amb w3) := HA.out.chg c hP4
 clear HA
 have HA : Hid (Amb w3) := HA1.out
 clear HA1
 clear HB
 have HB : Hid (BR w3 P l3) := hb
 clear hb ho
 have HK3 := kZz hx
 clear hx c
 obtain ⟨R,hR⟩ : ∃ R,w.heap.size = R := ⟨_,rfl⟩
 rw [hR] at xQ hQP
 obtain ⟨y0,y1⟩ := xQ.cell
 have f0 := xQ.frozen 0
 have f1 := xQ.frozen 1
 have HFX : Hid _ := ((xQ.set0 (.string T1)).set1 (.int .i64 n0))
 have HQ : Hid _ := (Chg.set R 0 w3 (.string T1)).trans (Chg.set R 1 _ (.int .i64 n0))
 have HXQ := kZz xQ
 clear xQ
 go_wp2
 obtain ⟨q0,q1⟩ := X2.cell HFX.out
 refine bodyPost_ret (v := .agg #[.string T1,.int .i64 n0]) (by simp [results,Tryz.results58,go_sem,q0,q1]) rfl ?_
 have kq : Kp (fun t => t != 78) w3 _ := Kp.chg HXQ.out HQ.out _ (by decide)
 exact Out.mkO HX.out (HC.out.new HQ.out (Nat.le_of_eq hR)) ⟨⟨T1,n0⟩,rfl,by rw [<- HT1.out]; rfl,xwO HK1.out HT1.out,xiH (xcH HBY.out HK3.out)⟩ (HB.out.kp kq (by decide))
theorem xsV (T : ByteArray) (s : List Int) (h : xaX T = s) : (T.toList == [104,111,115,116]) = (s == yaN) := by
 subst h
 rw [Lib.toList_data]
 rw [Bool.eq_iff_iff,beq_iff_eq,beq_iff_eq]
 constructor
 ·intro h
  unfold xaX
  rw [h]
  rfl
 ·intro h
  rw [<- xqD T,h]
  rfl
theorem xkE (k : Int) (w : World) : Calls Tryz.prog 78 #[.int .u8 k] w fun r w' => r = .returned (.int .u8 (cst k)) /\ w' = w := by
 unfold cst
 by_cases h : k = 126
 ·subst h
  go_enter Tryz.func78,Tryz.ntmps78
  go_wp2
  go_ret
  exact ⟨rfl,rfl⟩
 ·have hb : (k == 126) = false := by rw [beq_eq_false_iff_ne]; exact h
  rw [if_neg h]
  go_enter Tryz.func78,Tryz.ntmps78
  go_wp2
  go_ret
  exact ⟨rfl,rfl⟩
theorem xmV (k : Int) (w : World) : Calls Tryz.prog 80 #[.int .u8 k] w fun r w' => r = .returned (.int .i64 (bts k)) /\ w' = w := by
 unfold bts
 by_cases h : k = 126
 ·subst h
  go_enter Tryz.func80,Tryz.ntmps80
  go_wp2
  go_ret
  exact ⟨rfl,rfl⟩
 ·have hb : (k == 126) = false := by rw [beq_eq_false_iff_ne]; exact h
  rw [if_neg h]
  go_enter Tryz.func80,Tryz.ntmps80
  go_wp2
  go_ret
  exact ⟨rfl,rfl⟩
theorem xwY (P N : Nat) (w0 : World) : ∀ l' w',BR w' P l' -> Below N w0 w' -> N <= w'.heap.size -> Calls Tryz.prog 47 #[.pointer (some ⟨P,0,none⟩)] w' (Out P (fun a _ v => ∃ d : Int,v = .int .i64 d /\ id d = a /\ (Lit.int .i64 d).wf = true) (xeG l') w') := fun l' w' h _ _ =>
 (xgZ P l' w' h).mono fun r w2 ho => ho.imp fun a l v hx hv => ⟨a,hv,rfl,ybO (xiH (xcH h.byte hx))⟩
theorem xrN (P N : Nat) (w0 : World) : ∀ l' w',BR w' P l' -> Below N w0 w' -> N <= w'.heap.size -> Calls Tryz.prog 76 #[.pointer (some ⟨P,0,none⟩)] w' (Out P (fun a _ v => ∃ d : Int,v = .int .u8 d /\ id d = a /\ (Lit.int .u8 d).wf = true) (xgN l') w') := fun l' w' h _ _ =>
 (yfO P l' w' h).mono fun r w2 ho => ho.imp fun a l v hx hv => ⟨a,hv,rfl,by
  have := xlA (cod_kind.ok _ _ _ h.byte hx).1
  exact xuM (by omega) (by omega)⟩
def ymB (a : GloV) (w : World) (v : Value) : Prop := ∃ d : GloD,v = .agg #[.int .u8 d.k,.bool d.m,.int .i64 d.s] /\ d.val = a /\ GloD.ok w d
def ynY (a : DatV) (w : World) (v : Value) : Prop := ∃ d : DatD,v = .agg #[.int .i64 d.a,.string d.s] /\ d.val = a /\ DatD.ok w d
def ynZ (a : EleV) (w : World) (v : Value) : Prop := ∃ d : EleD,v = .agg #[.int .i64 d.a,.slice d.f.o d.f.n d.f.cap] /\ d.val = a /\ EleG w d
def ymD (a : SigV) (w : World) (v : Value) : Prop := ∃ d : SigD,v = .agg #[.slice d.i.o d.i.n d.i.cap,.slice d.r.o d.r.n d.r.cap] /\ d.val = a /\ SigG w d
theorem xhV {B n : Int} (h : xtA B n) : inI n := by
 rcases h with ⟨_,h1,h2⟩ | ⟨_,h1,h2⟩
 ·exact ⟨by omega,by omega⟩
 ·exact ⟨h1,h2⟩
theorem xxH (P : Nat) (l : List Int) (w : World) (h : BR w P l) (hA : Amb w) (hP4 : 4 <= P) :
  Calls Tryz.prog 51 #[.pointer (some ⟨P,0,none⟩)] w (Out P ymM (xpE l) w) := by
 have hPw := h.lt
 have HA0 := kZz hA
 clear hA
 have bA : Below w.heap.size w (w.alloc (.cells #[.string ⟨#[]⟩,.int .i64 0] 71)) := (Below.refl _ _).alloc (Nat.le_refl _) _
 have HB : Hid (BR (w.alloc (.cells #[.string ⟨#[]⟩,.int .i64 0] 71)) P l) := h.under bA
 have HC : Hid (Chg P w (w.alloc (.cells #[.string ⟨#[]⟩,.int .i64 0] 71))) := Chg.of_below bA
 have xQ : X2 71 (w.alloc (.cells #[.string ⟨#[]⟩,.int .i64 0] 71)) w.heap.size (.string ⟨#[]⟩) (.int .i64 0) := xaZ _ _
 have hQP : w.heap.size ≠ P := by omega
 clear bA
 clear h
 have HA : Hid (Amb _) := HA0.out.chg HC.out hP4
 clear HA0
 go_enter Tryz.func51,Tryz.ntmps51
 go_wp2_with fail
 refine (yfR P l _ HB.out HA.out).mono ?_
 intro r w1 ho
 rcases hx : xdV l with x | ⟨s0,l1⟩
 ·obtain ⟨c,rfl⟩ := ho.err hx
  exact ⟨rfl,Out.mkE (xaW hx) (HC.out.trans c)⟩
 obtain ⟨c,⟨v,rfl,T1,hT1,rfl⟩,hb⟩ := ho.got hx
 have HX1 : Hid (xpE l = _) := xaV hx
 have HX := kZz (HX1.out)
 clear HX1
 have xQ1 := xQ.chg c hQP
 clear xQ
 have xQ := xQ1
 clear xQ1
 have HC1 : Hid (Chg P w w1) := HC.out.trans c
 clear HC
 have HC : Hid (Chg P w w1) := HC1.out
 clear HC1
 have HA1 : Hid (Amb w1) := HA.out.chg c hP4
 clear HA
 have HA : Hid (Amb w1) := HA1.out
 clear HA1
 clear HB
 have HB : Hid (BR w1 P l1) := hb
 clear hb ho
 have HT1 : Hid (xaX T1 = s0) := hT1
 clear hT1
 have HK1 := kZz hx
 clear hx c
 have hs := xsV T1 s0 HT1.out
 rcases hq : (s0 == yaN : Bool) with _ | _
 ·rw [hq] at hs
  go_wp2_with fail
  refine (xbA _ _).mono ?_
  rintro r w9 ⟨rfl,rfl⟩
  exact ⟨rfl,Out.mkE (HX.out.trans (xaW (by rw [hq]; rfl))) HC.out⟩
 rw [hq] at hs
 go_wp2_with fail
 refine (xbB _ _).mono ?_
 rintro r w1 ⟨rfl,rfl⟩
 have HX1 : Hid (xpE l = _) := HX.out.trans (xaV (xdU hq _ _))
 clear HX
 have HX := kZz (HX1.out)
 clear HX1
 clear hs hq
 go_wp2_with fail
 refine (yfR P l1 _ HB.out HA.out).mono ?_
 intro r w2 ho
 rcases hx : xdV l1 with x | ⟨s1,l2⟩
 ·obtain ⟨c,rfl⟩ := ho.err hx
  exact ⟨rfl,Out.mkE (HX.out.trans (xaW hx)) (HC.out.trans c)⟩
 obtain ⟨c,⟨v,rfl,T2,hT2,rfl⟩,hb⟩ := ho.got hx
 have HX1 : Hid (xpE l = _) := HX.out.trans (xaV hx)
 clear HX
 have HX := kZz (HX1.out)
 clear HX1
 have xQ1 := xQ.chg c hQP
 clear xQ
 have xQ := xQ1
 clear xQ1
 have HC1 : Hid (Chg P w w2) := HC.out.trans c
 clear HC
 have HC : Hid (Chg P w w2) := HC1.out
 clear HC1
 have HA1 : Hid (Amb w2) := HA.out.chg c hP4
 clear HA
 have HA : Hid (Amb w2) := HA1.out
 clear HA1
 clear HB
 have HB : Hid (BR w2 P l2) := hb
 clear hb ho
 have HT2 : Hid (xaX T2 = s1) := hT2
 clear hT2
 have HK2 := kZz hx
 clear hx c
 go_wp2_with fail
 refine (xcA P l2 0 6 _ HB.out).mono ?_
 intro r w3 ho
 rcases hx : xfX 0 6 l2 with x | ⟨u0,l3⟩
 ·obtain ⟨c,rfl⟩ := ho.err hx
  exact ⟨rfl,Out.mkE (HX.out.trans (xaW hx)) (HC.out.trans c)⟩
 obtain ⟨c,⟨v,rfl,rfl⟩,hb⟩ := ho.got hx
 have HX1 : Hid (xpE l = _) := HX.out.trans (xaV hx)
 clear HX
 have HX := kZz (HX1.out)
 clear HX1
 have xQ1 := xQ.chg c hQP
 clear xQ
 have xQ := xQ1
 clear xQ1
 have HC1 : Hid (Chg P w w3) := HC.out.trans c
 clear HC
 have HC : Hid (Chg P w w3) := HC1.out
 clear HC1
 have HA1 : Hid (Amb w3) := HA.out.chg c hP4
 clear HA
 have HA : Hid (Amb w3) := HA1.out
 clear HA1
 clear HB
 have HB : Hid (BR w3 P l3) := hb
 clear hb ho
 have HK3 := kZz hx
 clear hx c
 have HBY : Hid (Bts l3) := HB.out.byte
 go_wp2_with fail
 refine (xgZ P l3 _ HB.out).mono ?_
 intro r w4 ho
 rcases hx : xeG l3 with x | ⟨n0,l4⟩
 ·obtain ⟨c,rfl⟩ := ho.err hx
  exact ⟨rfl,Out.mkE (HX.out.trans (xaW hx)) (HC.out.trans c)⟩
 obtain ⟨c,⟨v,rfl,rfl⟩,hb⟩ := ho.got hx
 have HX1 : Hid (xpE l = _) := HX.out.trans (xaV hx)
 clear HX
 have HX := kZz (HX1.out)
 clear HX1
 have xQ1 := xQ.chg c hQP
 clear xQ
 have xQ := xQ1
 clear xQ1
 have HC1 : Hid (Chg P w w4) := HC.out.trans c
 clear HC
 have HC : Hid (Chg P w w4) := HC1.out
 clear HC1
 have HA1 : Hid (Amb w4) := HA.out.chg c hP4
 clear HA
 have HA : Hid (Amb w4) := HA1.out
 clear HA1
 clear HB
 have HB : Hid (BR w4 P l4) := hb
 clear hb ho
 have HK4 := kZz hx
 clear hx c
 obtain ⟨R,hR⟩ : ∃ R,w.heap.size = R := ⟨_,rfl⟩
 rw [hR] at xQ hQP
 obtain ⟨y0,y1⟩ := xQ.cell
 have f0 := xQ.frozen 0
 have f1 := xQ.frozen 1
 have HFX : Hid _ := ((xQ.set0 (.string T2)).set1 (.int .i64 n0))
 have HQ : Hid _ := (Chg.set R 0 w4 (.string T2)).trans (Chg.set R 1 _ (.int .i64 n0))
 have HXQ := kZz xQ
 clear xQ
 go_wp2
 obtain ⟨q0,q1⟩ := X2.cell HFX.out
 refine bodyPost_ret (v := .agg #[.string T2,.int .i64 n0]) (by simp [results,Tryz.results51,go_sem,q0,q1]) rfl ?_
 have kq : Kp (fun t => t != 71) w4 _ := Kp.chg HXQ.out HQ.out _ (by decide)
 exact Out.mkO HX.out (HC.out.new HQ.out (Nat.le_of_eq hR)) ⟨⟨T2,n0⟩,rfl,by rw [<- HT2.out]; rfl,xwO HK2.out HT2.out,xiH (xcH HBY.out HK4.out)⟩ (HB.out.kp kq (by decide))
theorem yjY (P : Nat) (l : List Int) (w : World) (h : BR w P l) :
  Calls Tryz.prog 53 #[.pointer (some ⟨P,0,none⟩)] w (Out P yfF (xfQ l) w) := by
 have hPw := h.lt
 have HB : Hid (BR w P l) := h
 have HC : Hid (Chg P w w) := Chg.refl _ _
 clear h
 go_enter Tryz.func53,Tryz.ntmps53
 go_wp2_with fail
 refine (xeX P 1 l _ HB.out).mono ?_
 intro r w1 ho
 rcases hx : xbX 1 l with x | ⟨n0,l1⟩
 ·obtain ⟨c,rfl⟩ := ho.err hx
  exact ⟨rfl,Out.mkE (xaW hx) (HC.out.trans c)⟩
 obtain ⟨c,⟨v,rfl,rfl⟩,hb⟩ := ho.got hx
 have HX1 : Hid (xfQ l = _) := xaV hx
 have HX := kZz (HX1.out)
 clear HX1
 have HC1 : Hid (Chg P w w1) := HC.out.trans c
 clear HC
 have HC : Hid (Chg P w w1) := HC1.out
 clear HC1
 clear HB
 have HB : Hid (BR w1 P l1) := hb
 clear hb ho
 have HK1 := kZz hx
 clear hx c
 by_cases hz : n0 = 0
 ·subst hz
  go_wp2
  go_ret
  exact Out.mkO HX.out HC.out rfl HB.out
 have hzb : (n0 == 0) = false := by rw [beq_eq_false_iff_ne]; exact hz
 have HX1 : Hid (xfQ l = _) := HX.out.trans (by rw [if_neg hz])
 clear HX
 have HX := kZz (HX1.out)
 clear HX1
 go_wp2_with fail
 refine (xcA P l1 112 6 _ HB.out).mono ?_
 intro r w2 ho
 rcases hx : xfX 112 6 l1 with x | ⟨u0,l2⟩
 ·obtain ⟨c,rfl⟩ := ho.err hx
  exact ⟨rfl,Out.mkE (HX.out.trans (xaW hx)) (HC.out.trans c)⟩
 obtain ⟨c,⟨v,rfl,rfl⟩,hb⟩ := ho.got hx
 have HX1 : Hid (xfQ l = _) := HX.out.trans (xaV hx)
 clear HX
 have HX := kZz (HX1.out)
 clear HX1
 have HC1 : Hid (Chg P w w2) := HC.out.trans c
 clear HC
 have HC : Hid (Chg P w w2) := HC1.out
 clear HC1
 clear HB
 have HB : Hid (BR w2 P l2) := hb
 clear hb ho
 have HK2 := kZz hx
 clear hx c
 go_wp2_with fail
 refine (xcA P l2 0 6 _ HB.out).mono ?_
 intro r w3 ho
 rcases hx : xfX 0 6 l2 with x | ⟨u1,l3⟩
 ·obtain ⟨c,rfl⟩ := ho.err hx
  exact ⟨rfl,Out.mkE (HX.out.trans (xaW hx)) (HC.out.trans c)⟩
 obtain ⟨c,⟨v,rfl,rfl⟩,hb⟩ := ho.got hx
 have HX1 : Hid (xfQ l = _) := HX.out.trans (xaV hx)
 clear HX
 have HX := kZz (HX1.out)
 clear HX1
 have HC1 : Hid (Chg P w w3) := HC.out.trans c
 clear HC
 have HC : Hid (Chg P w w3) := HC1.out
 clear HC1
 clear HB
 have HB : Hid (BR w3 P l3) := hb
 clear hb ho
 have HK3 := kZz hx
 clear hx c
 go_wp2_with fail
 refine (xeX P 16 l3 _ HB.out).mono ?_
 intro r w4 ho
 rcases hx : xbX 16 l3 with x | ⟨n1,l4⟩
 ·obtain ⟨c,rfl⟩ := ho.err hx
  exact ⟨rfl,Out.mkE (HX.out.trans hx) (HC.out.trans c)⟩
 obtain ⟨c,⟨v,rfl,rfl⟩,hb⟩ := ho.got hx
 have HX1 : Hid (xfQ l = _) := HX.out.trans hx
 clear HX
 have HX := kZz (HX1.out)
 have HC1 : Hid (Chg P w w4) := HC.out.trans c
 clear HC
 have HC : Hid (Chg P w w4) := HC1.out
 clear HB
 have HB : Hid (BR w4 P l4) := hb
 clear hb ho hx c HX1 HC1
 go_wp2
 go_ret
 exact Out.mkO HX.out HC.out rfl HB.out
theorem yfQ (P : Nat) (l : List Int) (w : World) (h : BR w P l) :
  Calls Tryz.prog 54 #[.pointer (some ⟨P,0,none⟩)] w (Out P (fun a _ v => v = .tuple #[.int .i64 a.1,.int .i64 a.2]) (xrO l) w) := by
 have hPw := h.lt
 have HB : Hid (BR w P l) := h
 have HC : Hid (Chg P w w) := Chg.refl _ _
 clear h
 go_enter Tryz.func54,Tryz.ntmps54
 go_wp2_with fail
 refine (xeX P 1 l _ HB.out).mono ?_
 intro r w1 ho
 rcases hx : xbX 1 l with x | ⟨n0,l1⟩
 ·obtain ⟨c,rfl⟩ := ho.err hx
  exact ⟨rfl,Out.mkE (xaW hx) (HC.out.trans c)⟩
 obtain ⟨c,⟨v,rfl,rfl⟩,hb⟩ := ho.got hx
 have HX1 : Hid (xrO l = _) := xaV hx
 have HX := kZz (HX1.out)
 clear HX1
 have HC1 : Hid (Chg P w w1) := HC.out.trans c
 clear HC
 have HC : Hid (Chg P w w1) := HC1.out
 clear HC1
 clear HB
 have HB : Hid (BR w1 P l1) := hb
 clear hb ho
 have HK1 := kZz hx
 clear hx c
 by_cases hz : n0 = 0
 ·subst hz
  go_wp2
  go_ret2
  exact Out.mkO HX.out HC.out rfl HB.out
 have hzb : (n0 == 0) = false := by rw [beq_eq_false_iff_ne]; exact hz
 have HX1 : Hid (xrO l = _) := HX.out.trans (by rw [if_neg hz])
 clear HX
 have HX := kZz (HX1.out)
 clear HX1
 go_wp2_with fail
 refine (xcA P l1 1 6 _ HB.out).mono ?_
 intro r w2 ho
 rcases hx : xfX 1 6 l1 with x | ⟨u0,l2⟩
 ·obtain ⟨c,rfl⟩ := ho.err hx
  exact ⟨rfl,Out.mkE (HX.out.trans (xaW hx)) (HC.out.trans c)⟩
 obtain ⟨c,⟨v,rfl,rfl⟩,hb⟩ := ho.got hx
 have HX1 : Hid (xrO l = _) := HX.out.trans (xaV hx)
 clear HX
 have HX := kZz (HX1.out)
 clear HX1
 have HC1 : Hid (Chg P w w2) := HC.out.trans c
 clear HC
 have HC : Hid (Chg P w w2) := HC1.out
 clear HC1
 clear HB
 have HB : Hid (BR w2 P l2) := hb
 clear hb ho
 have HK2 := kZz hx
 clear hx c
 go_wp2_with fail
 refine (xgZ P l2 _ HB.out).mono ?_
 intro r w3 ho
 rcases hx : xeG l2 with x | ⟨n1,l3⟩
 ·obtain ⟨c,rfl⟩ := ho.err hx
  exact ⟨rfl,Out.mkE (HX.out.trans (xaW hx)) (HC.out.trans c)⟩
 obtain ⟨c,⟨v,rfl,rfl⟩,hb⟩ := ho.got hx
 have HX1 : Hid (xrO l = _) := HX.out.trans (xaV hx)
 clear HX
 have HX := kZz (HX1.out)
 clear HX1
 have HC1 : Hid (Chg P w w3) := HC.out.trans c
 clear HC
 have HC : Hid (Chg P w w3) := HC1.out
 clear HC1
 clear HB
 have HB : Hid (BR w3 P l3) := hb
 clear hb ho
 have HK3 := kZz hx
 clear hx c
 go_wp2_with fail
 refine (xeX P 8 l3 _ HB.out).mono ?_
 intro r w4 ho
 rcases hx : xbX 8 l3 with x | ⟨n2,l4⟩
 ·obtain ⟨c,rfl⟩ := ho.err hx
  exact ⟨rfl,Out.mkE (HX.out.trans (xaW hx)) (HC.out.trans c)⟩
 obtain ⟨c,⟨v,rfl,rfl⟩,hb⟩ := ho.got hx
 have HX1 : Hid (xrO l = _) := HX.out.trans (xaV hx)
 clear HX
 have HX := kZz (HX1.out)
 clear HX1
 have HC1 : Hid (Chg P w w4) := HC.out.trans c
 clear HC
 have HC : Hid (Chg P w w4) := HC1.out
 clear HC1
 clear HB
 have HB : Hid (BR w4 P l4) := hb
 clear hb ho
 have HK4 := kZz hx
 clear hx c
 rcases hq : (decide (n1 <= n2) : Bool) with _ | _
 ·go_wp2_with fail
  refine (xbA _ _).mono ?_
  rintro r w9 ⟨rfl,rfl⟩
  exact ⟨rfl,Out.mkE (HX.out.trans (xaW (by rw [hq]; rfl))) HC.out⟩
 go_wp2_with fail
 refine (xbB _ _).mono ?_
 rintro r w4 ⟨rfl,rfl⟩
 have HX1 : Hid (xrO l = _) := HX.out.trans (xaV (xdU hq _ _))
 clear HX
 have HX := kZz (HX1.out)
 clear HX1
 go_wp2
 go_ret2
 exact Out.mkO HX.out HC.out rfl HB.out
theorem yjX (P : Nat) (l : List Int) (w : World) (h : BR w P l) :
  Calls Tryz.prog 59 #[.pointer (some ⟨P,0,none⟩)] w (Out P yfF (xhN l) w) := by
 have hPw := h.lt
 have HB : Hid (BR w P l) := h
 have HC : Hid (Chg P w w) := Chg.refl _ _
 clear h
 go_enter Tryz.func59,Tryz.ntmps59
 have HBY : Hid (Bts l) := HB.out.byte
 go_wp2_with fail
 refine (xgZ P l _ HB.out).mono ?_
 intro r w1 ho
 rcases hx : xeG l with x | ⟨n0,l1⟩
 ·obtain ⟨c,rfl⟩ := ho.err hx
  exact ⟨rfl,Out.mkE (xaW hx) (HC.out.trans c)⟩
 obtain ⟨c,⟨v,rfl,rfl⟩,hb⟩ := ho.got hx
 have HX1 : Hid (xhN l = _) := xaV hx
 have HX := kZz (HX1.out)
 clear HX1
 have HC1 : Hid (Chg P w w1) := HC.out.trans c
 clear HC
 have HC : Hid (Chg P w w1) := HC1.out
 clear HC1
 clear HB
 have HB : Hid (BR w1 P l1) := hb
 clear hb ho
 have HK1 := kZz hx
 clear hx c
 have hn0 := xcH HBY.out HK1.out
 obtain ⟨hn1,hn2⟩ := hn0
 rcases hq : (decide (n0 < 4294967295) : Bool) with _ | _
 ·go_wp2_with fail
  refine (xbA _ _).mono ?_
  rintro r w9 ⟨rfl,rfl⟩
  exact ⟨rfl,Out.mkE (HX.out.trans (xaW (by rw [hq]; rfl))) HC.out⟩
 go_wp2_with fail
 refine (xbB _ _).mono ?_
 rintro r w1 ⟨rfl,rfl⟩
 have HX1 : Hid (xhN l = _) := HX.out.trans (xaV (xdU hq _ _))
 clear HX
 have HX := kZz (HX1.out)
 clear HX1
 go_wp2
 go_ret
 exact Out.mkO HX.out HC.out rfl HB.out
theorem ymX (P : Nat) (N : Nat) (w0 : World) (l : List Int) (w : World) (h : BR w P l) (hW : Below N w0 w /\ N <= hsz w) (hNP : N <= P) :
  Calls Tryz.prog 61 #[.pointer (some ⟨P,0,none⟩)] w (Out P ynZ (xvC l) w) := by
 have hPw := h.lt
 have bA : Below w.heap.size w (w.alloc (.cells #[.int .i64 0,.slice none 0 0] 62)) := (Below.refl _ _).alloc (Nat.le_refl _) _
 have HB : Hid (BR (w.alloc (.cells #[.int .i64 0,.slice none 0 0] 62)) P l) := h.under bA
 have HC : Hid (Chg P w (w.alloc (.cells #[.int .i64 0,.slice none 0 0] 62))) := Chg.of_below bA
 have xQ : X2 62 (w.alloc (.cells #[.int .i64 0,.slice none 0 0] 62)) w.heap.size (.int .i64 0) (.slice none 0 0) := xaZ _ _
 have hQP : w.heap.size ≠ P := by omega
 clear bA
 clear h
 have HW : Hid (Below N w0 _ /\ N <= hsz _) := wOf hW HC.out hNP
 clear hW
 go_enter Tryz.func61,Tryz.ntmps61
 have HBY : Hid (Bts l) := HB.out.byte
 go_wp2_with fail
 refine (ycX P l _ HB.out).mono ?_
 intro r w1 ho
 rcases hx : xfP l with x | ⟨a0,l1⟩
 ·obtain ⟨c,rfl⟩ := ho.err hx
  exact ⟨rfl,Out.mkE (xaW hx) (HC.out.trans c)⟩
 obtain ⟨c,⟨v,rfl,rfl⟩,hb⟩ := ho.got hx
 have HX1 : Hid (xvC l = _) := xaV hx
 have HX := kZz (HX1.out)
 clear HX1
 have xQ1 := xQ.chg c hQP
 clear xQ
 have xQ := xQ1
 clear xQ1
 have HC1 : Hid (Chg P w w1) := HC.out.trans c
 clear HC
 have HC : Hid (Chg P w w1) := HC1.out
 clear HC1
 have HW1 : Hid (Below N w0 w1 /\ N <= hsz w1) := wOf HW.out c hNP
 clear HW
 have HW : Hid (Below N w0 w1 /\ N <= hsz w1) := HW1.out
 clear HW1
 clear HB
 have HB : Hid (BR w1 P l1) := hb
 clear hb ho
 have HK1 := kZz hx
 clear hx c
 go_wp2_with fail
 refine (xoE P N 16 (by omega) xeG id w0 _ l1 HB.out HW.out.1 hNP HW.out.2 (xwY P N w0)).mono ?_
 intro r w2 ho
 rcases hx : xbP 16 xeG l1 with x | ⟨f0,l2⟩
 ·obtain ⟨c,rfl⟩ := ho.err hx
  exact ⟨rfl,Out.mkE (HX.out.trans (xaW hx)) (HC.out.trans c)⟩
 obtain ⟨c,⟨v,rfl,o2,cap2,L2,rfl,hm2,hl2⟩,hb⟩ := ho.got hx
 have HX1 : Hid (xvC l = _) := HX.out.trans (xaV hx)
 clear HX
 have HX := kZz (HX1.out)
 clear HX1
 have xQ1 := xQ.chg c hQP
 clear xQ
 have xQ := xQ1
 clear xQ1
 have HC1 : Hid (Chg P w w2) := HC.out.trans c
 clear HC
 have HC : Hid (Chg P w w2) := HC1.out
 clear HC1
 have HW1 : Hid (Below N w0 w2 /\ N <= hsz w2) := wOf HW.out c hNP
 clear HW
 have HW : Hid (Below N w0 w2 /\ N <= hsz w2) := HW1.out
 clear HW1
 clear HB
 have HB : Hid (BR w2 P l2) := hb
 clear hb ho
 have HL2 := kZz hl2
 have HM2 := kZz hm2
 clear hl2 hm2
 have HK2 := kZz hx
 clear hx c
 obtain ⟨R,hR⟩ : ∃ R,w.heap.size = R := ⟨_,rfl⟩
 rw [hR] at xQ hQP
 obtain ⟨y0,y1⟩ := xQ.cell
 have f0 := xQ.frozen 0
 have f1 := xQ.frozen 1
 have HFX : Hid _ := ((xQ.set0 (.int .i64 a0)).set1 (.slice o2 L2.length cap2))
 have HQ : Hid _ := (Chg.set R 0 w2 (.int .i64 a0)).trans (Chg.set R 1 _ (.slice o2 L2.length cap2))
 have HXQ := kZz xQ
 clear xQ
 go_wp2
 obtain ⟨q0,q1⟩ := X2.cell HFX.out
 refine bodyPost_ret (v := .agg #[.int .i64 a0,.slice o2 L2.length cap2]) (by simp [results,Tryz.results61,go_sem,q0,q1]) rfl ?_
 have kq : Kp (fun t => t != 62) w2 _ := Kp.chg HXQ.out HQ.out _ (by decide)
 exact Out.mkO HX.out (HC.out.new HQ.out (Nat.le_of_eq hR)) ⟨⟨a0,⟨o2,L2.length,cap2,L2⟩⟩,rfl,by rw [<- HM2.out,List.map_id]; rfl,xhV (cod_place.ok _ _ _ HBY.out HK1.out).1,(HL2.out.num).kp kq (by decide)⟩ (HB.out.kp kq (by decide))
theorem ynS (P : Nat) (N : Nat) (w0 : World) (l : List Int) (w : World) (h : BR w P l) (hW : Below N w0 w /\ N <= hsz w) (hNP : N <= P) :
  Calls Tryz.prog 49 #[.pointer (some ⟨P,0,none⟩)] w (Out P ymD (xvI l) w) := by
 have hPw := h.lt
 have bA : Below w.heap.size w (w.alloc (.cells #[.slice none 0 0,.slice none 0 0] 67)) := (Below.refl _ _).alloc (Nat.le_refl _) _
 have HB : Hid (BR (w.alloc (.cells #[.slice none 0 0,.slice none 0 0] 67)) P l) := h.under bA
 have HC : Hid (Chg P w (w.alloc (.cells #[.slice none 0 0,.slice none 0 0] 67))) := Chg.of_below bA
 have xQ : X2 67 (w.alloc (.cells #[.slice none 0 0,.slice none 0 0] 67)) w.heap.size (.slice none 0 0) (.slice none 0 0) := xaZ _ _
 have hQP : w.heap.size ≠ P := by omega
 clear bA
 clear h
 have HW : Hid (Below N w0 _ /\ N <= hsz _) := wOf hW HC.out hNP
 clear hW
 go_enter Tryz.func49,Tryz.ntmps49
 go_wp2_with fail
 refine (xcA P l 96 4 _ HB.out).mono ?_
 intro r w1 ho
 rcases hx : xfX 96 4 l with x | ⟨u0,l1⟩
 ·obtain ⟨c,rfl⟩ := ho.err hx
  exact ⟨rfl,Out.mkE (xaW hx) (HC.out.trans c)⟩
 obtain ⟨c,⟨v,rfl,rfl⟩,hb⟩ := ho.got hx
 have HX1 : Hid (xvI l = _) := xaV hx
 have HX := kZz (HX1.out)
 clear HX1
 have xQ1 := xQ.chg c hQP
 clear xQ
 have xQ := xQ1
 clear xQ1
 have HC1 : Hid (Chg P w w1) := HC.out.trans c
 clear HC
 have HC : Hid (Chg P w w1) := HC1.out
 clear HC1
 have HW1 : Hid (Below N w0 w1 /\ N <= hsz w1) := wOf HW.out c hNP
 clear HW
 have HW : Hid (Below N w0 w1 /\ N <= hsz w1) := HW1.out
 clear HW1
 clear HB
 have HB : Hid (BR w1 P l1) := hb
 clear hb ho
 have HK1 := kZz hx
 clear hx c
 go_wp2_with fail
 refine (xoF P N 4 (by omega) xgN id w0 _ l1 HB.out HW.out.1 hNP HW.out.2 (xrN P N w0)).mono ?_
 intro r w2 ho
 rcases hx : xbP 4 xgN l1 with x | ⟨i0,l2⟩
 ·obtain ⟨c,rfl⟩ := ho.err hx
  exact ⟨rfl,Out.mkE (HX.out.trans (xaW hx)) (HC.out.trans c)⟩
 obtain ⟨c,⟨v,rfl,o2,cap2,L2,rfl,hm2,hl2⟩,hb⟩ := ho.got hx
 have HX1 : Hid (xvI l = _) := HX.out.trans (xaV hx)
 clear HX
 have HX := kZz (HX1.out)
 clear HX1
 have xQ1 := xQ.chg c hQP
 clear xQ
 have xQ := xQ1
 clear xQ1
 have HC1 : Hid (Chg P w w2) := HC.out.trans c
 clear HC
 have HC : Hid (Chg P w w2) := HC1.out
 clear HC1
 have HW1 : Hid (Below N w0 w2 /\ N <= hsz w2) := wOf HW.out c hNP
 clear HW
 have HW : Hid (Below N w0 w2 /\ N <= hsz w2) := HW1.out
 clear HW1
 clear HB
 have HB : Hid (BR w2 P l2) := hb
 clear hb ho
 have HL2 := kZz hl2
 have HM2 := kZz hm2
 clear hl2 hm2
 have HK2 := kZz hx
 clear hx c
 go_wp2_with fail
 refine (xoF P N 1 (by omega) xgN id w0 _ l2 HB.out HW.out.1 hNP HW.out.2 (xrN P N w0)).mono ?_
 intro r w3 ho
 rcases hx : xbP 1 xgN l2 with x | ⟨i1,l3⟩
 ·obtain ⟨c,rfl⟩ := ho.err hx
  exact ⟨rfl,Out.mkE (HX.out.trans (xaW hx)) (HC.out.trans c)⟩
 obtain ⟨c,⟨v,rfl,o3,cap3,L3,rfl,hm3,hl3⟩,hb⟩ := ho.got hx
 have HX1 : Hid (xvI l = _) := HX.out.trans (xaV hx)
 clear HX
 have HX := kZz (HX1.out)
 clear HX1
 have xQ1 := xQ.chg c hQP
 clear xQ
 have xQ := xQ1
 clear xQ1
 have HL21 : Hid _ := HL2.out.kp (Kp.reader HB.out c (fun t => t != 40) (by decide)) (by decide) (fun _ hd => hd)
 clear HL2
 have HL2 := kZz (HL21.out)
 clear HL21
 have HC1 : Hid (Chg P w w3) := HC.out.trans c
 clear HC
 have HC : Hid (Chg P w w3) := HC1.out
 clear HC1
 have HW1 : Hid (Below N w0 w3 /\ N <= hsz w3) := wOf HW.out c hNP
 clear HW
 have HW : Hid (Below N w0 w3 /\ N <= hsz w3) := HW1.out
 clear HW1
 clear HB
 have HB : Hid (BR w3 P l3) := hb
 clear hb ho
 have HL3 := kZz hl3
 have HM3 := kZz hm3
 clear hl3 hm3
 have HK3 := kZz hx
 clear hx c
 obtain ⟨R,hR⟩ : ∃ R,w.heap.size = R := ⟨_,rfl⟩
 rw [hR] at xQ hQP
 obtain ⟨y0,y1⟩ := xQ.cell
 have f0 := xQ.frozen 0
 have f1 := xQ.frozen 1
 have HFX : Hid _ := ((xQ.set0 (.slice o2 L2.length cap2)).set1 (.slice o3 L3.length cap3))
 have HQ : Hid _ := (Chg.set R 0 w3 (.slice o2 L2.length cap2)).trans (Chg.set R 1 _ (.slice o3 L3.length cap3))
 have HXQ := kZz xQ
 clear xQ
 go_wp2
 obtain ⟨q0,q1⟩ := X2.cell HFX.out
 refine bodyPost_ret (v := .agg #[.slice o2 L2.length cap2,.slice o3 L3.length cap3]) (by simp [results,Tryz.results49,go_sem,q0,q1]) rfl ?_
 have kq : Kp (fun t => t != 67) w3 _ := Kp.chg HXQ.out HQ.out _ (by decide)
 exact Out.mkO HX.out (HC.out.new HQ.out (Nat.le_of_eq hR)) ⟨⟨⟨o2,L2.length,cap2,L2⟩,⟨o3,L3.length,cap3,L3⟩⟩,rfl,by rw [<- HM2.out,<- HM3.out,List.map_id,List.map_id]; rfl,(HL2.out.num).kp kq (by decide),(HL3.out.num).kp kq (by decide)⟩ (HB.out.kp kq (by decide))
theorem xzD (o : Int) : ((o == 65) = false /\ (o == 66) = false) \/ (o == 65) = true \/ ((o == 65) = false /\ (o == 66) = true) := by
 cases (o == 65) <;> cases (o == 66) <;> simp
theorem xoQ {n : Int} {l s r : List Int} (h : xbR n l = .ok (s,r)) : s.length <= l.length /\ (0 <= n -> (s.length : Int) = n) := by
 unfold xbR at h
 split at h
 ·simp only [Except.ok.injEq,Prod.mk.injEq] at h
  rw [<- h.1,List.length_take]
  exact ⟨by omega,fun _ => by omega⟩
 ·cases h
theorem yfN (P : Nat) (l : List Int) (w : World) (h : BR w P l) :
  Calls Tryz.prog 56 #[.pointer (some ⟨P,0,none⟩)] w (Out P ymB (xlN l) w) := by
 have hPw := h.lt
 have bA : Below w.heap.size w (w.alloc (.cells #[.int .u8 0,.bool false,.int .i64 0] 75)) := (Below.refl _ _).alloc (Nat.le_refl _) _
 have HB : Hid (BR (w.alloc (.cells #[.int .u8 0,.bool false,.int .i64 0] 75)) P l) := h.under bA
 have HC : Hid (Chg P w (w.alloc (.cells #[.int .u8 0,.bool false,.int .i64 0] 75))) := Chg.of_below bA
 have xQ : X3 75 (w.alloc (.cells #[.int .u8 0,.bool false,.int .i64 0] 75)) w.heap.size (.int .u8 0) (.bool false) (.int .i64 0) := xaZ _ _
 have hQP : w.heap.size ≠ P := by omega
 clear bA
 clear h
 go_enter Tryz.func56,Tryz.ntmps56
 have HBY : Hid (Bts l) := HB.out.byte
 go_wp2_with fail
 refine (yfO P l _ HB.out).mono ?_
 intro r w1 ho
 rcases hx : xgN l with x | ⟨k0,l1⟩
 ·obtain ⟨c,rfl⟩ := ho.err hx
  exact ⟨rfl,Out.mkE (xaW hx) (HC.out.trans c)⟩
 obtain ⟨c,⟨v,rfl,rfl⟩,hb⟩ := ho.got hx
 have HX1 : Hid (xlN l = _) := xaV hx
 have HX := kZz (HX1.out)
 clear HX1
 have xQ1 := xQ.chg c hQP
 clear xQ
 have xQ := xQ1
 clear xQ1
 have HC1 : Hid (Chg P w w1) := HC.out.trans c
 clear HC
 have HC : Hid (Chg P w w1) := HC1.out
 clear HC1
 clear HB
 have HB : Hid (BR w1 P l1) := hb
 clear hb ho
 have HK1 := kZz hx
 clear hx c
 go_wp2_with fail
 refine (xxP P l1 _ HB.out).mono ?_
 intro r w2 ho
 rcases hx : xfH l1 with x | ⟨m0,l2⟩
 ·obtain ⟨c,rfl⟩ := ho.err hx
  exact ⟨rfl,Out.mkE (HX.out.trans (xaW hx)) (HC.out.trans c)⟩
 obtain ⟨c,⟨v,rfl,rfl⟩,hb⟩ := ho.got hx
 have HX1 : Hid (xlN l = _) := HX.out.trans (xaV hx)
 clear HX
 have HX := kZz (HX1.out)
 clear HX1
 have xQ1 := xQ.chg c hQP
 clear xQ
 have xQ := xQ1
 clear xQ1
 have HC1 : Hid (Chg P w w2) := HC.out.trans c
 clear HC
 have HC : Hid (Chg P w w2) := HC1.out
 clear HC1
 clear HB
 have HB : Hid (BR w2 P l2) := hb
 clear hb ho
 have HK2 := kZz hx
 clear hx c
 rcases hq : (decide (m0 <= 1) : Bool) with _ | _
 ·go_wp2_with fail
  refine (xbA _ _).mono ?_
  rintro r w9 ⟨rfl,rfl⟩
  exact ⟨rfl,Out.mkE (HX.out.trans (xaW (by rw [hq]; rfl))) HC.out⟩
 go_wp2_with fail
 refine (xbB _ _).mono ?_
 rintro r w2 ⟨rfl,rfl⟩
 have HX1 : Hid (xlN l = _) := HX.out.trans (xaV (xdU hq _ _))
 clear HX
 have HX := kZz (HX1.out)
 clear HX1
 go_wp2_with fail
 refine (xxP P l2 _ HB.out).mono ?_
 intro r w3 ho
 rcases hx : xfH l2 with x | ⟨op0,l3⟩
 ·obtain ⟨c,rfl⟩ := ho.err hx
  exact ⟨rfl,Out.mkE (HX.out.trans (xaW hx)) (HC.out.trans c)⟩
 obtain ⟨c,⟨v,rfl,rfl⟩,hb⟩ := ho.got hx
 have HX1 : Hid (xlN l = _) := HX.out.trans (xaV hx)
 clear HX
 have HX := kZz (HX1.out)
 clear HX1
 have xQ1 := xQ.chg c hQP
 clear xQ
 have xQ := xQ1
 clear xQ1
 have HC1 : Hid (Chg P w w3) := HC.out.trans c
 clear HC
 have HC : Hid (Chg P w w3) := HC1.out
 clear HC1
 clear HB
 have HB : Hid (BR w3 P l3) := hb
 clear hb ho
 have HK3 := kZz hx
 clear hx c
 rcases xzD op0 with ⟨h65,h66⟩ | h65 | ⟨h65,h66⟩
 ·go_wp2_with fail
  refine (xbA _ _).mono ?_
  rintro r w9 ⟨rfl,rfl⟩
  exact ⟨rfl,Out.mkE (HX.out.trans (xaW (by rw [h65,h66]; rfl))) HC.out⟩
 ·have hq : (op0 == 65 || op0 == 66) = true := by rw [h65]; rfl
  go_wp2_with fail
  refine (xbB _ _).mono ?_
  rintro r w3 ⟨rfl,rfl⟩
  have HX1 : Hid (xlN l = _) := HX.out.trans (xaV (xdU hq _ _))
  clear HX
  have HX := kZz (HX1.out)
  clear HX1 hq
  go_wp2_with fail
  refine (xkE k0 _).mono ?_
  rintro r w3 ⟨rfl,rfl⟩
  rcases hq : (op0 == cst k0 : Bool) with _ | _
  ·go_wp2_with fail
   refine (xbA _ _).mono ?_
   rintro r w9 ⟨rfl,rfl⟩
   exact ⟨rfl,Out.mkE (HX.out.trans (xaW (by rw [hq]; rfl))) HC.out⟩
  go_wp2_with fail
  refine (xbB _ _).mono ?_
  rintro r w3 ⟨rfl,rfl⟩
  have HX1 : Hid (xlN l = _) := HX.out.trans (xaV (xdU hq _ _))
  clear HX
  have HX := kZz (HX1.out)
  clear HX1
  go_wp2_with fail
  refine (xmV k0 _).mono ?_
  rintro r w3 ⟨rfl,rfl⟩
  have HBY3 : Hid (Bts l3) := HB.out.byte
  go_wp2_with fail
  refine (xqJ P (bts k0) (xoG k0) l3 _ HB.out).mono ?_
  intro r w4 ho
  rcases hx : xmO (bts k0) l3 with x | ⟨s0,l4⟩
  ·obtain ⟨c,rfl⟩ := ho.err hx
   exact ⟨rfl,Out.mkE (HX.out.trans (xaW hx)) (HC.out.trans c)⟩
  obtain ⟨c,⟨v,rfl,rfl⟩,hb⟩ := ho.got hx
  have HX1 : Hid (xlN l = _) := HX.out.trans (xaV hx)
  clear HX
  have HX := kZz (HX1.out)
  clear HX1
  have xQ1 := xQ.chg c hQP
  clear xQ
  have xQ := xQ1
  clear xQ1
  have HC1 : Hid (Chg P w w4) := HC.out.trans c
  clear HC
  have HC : Hid (Chg P w w4) := HC1.out
  clear HC1
  clear HB
  have HB : Hid (BR w4 P l4) := hb
  clear hb ho
  have HK4 := kZz hx
  clear hx c
  go_wp2_with fail
  refine (xcA P l4 11 4 _ HB.out).mono ?_
  intro r w5 ho
  rcases hx : xfX 11 4 l4 with x | ⟨u0,l5⟩
  ·obtain ⟨c,rfl⟩ := ho.err hx
   exact ⟨rfl,Out.mkE (HX.out.trans (xaW hx)) (HC.out.trans c)⟩
  obtain ⟨c,⟨v,rfl,rfl⟩,hb⟩ := ho.got hx
  have HX1 : Hid (xlN l = _) := HX.out.trans (xaV hx)
  clear HX
  have HX := kZz (HX1.out)
  clear HX1
  have xQ1 := xQ.chg c hQP
  clear xQ
  have xQ := xQ1
  clear xQ1
  have HC1 : Hid (Chg P w w5) := HC.out.trans c
  clear HC
  have HC : Hid (Chg P w w5) := HC1.out
  clear HC1
  clear HB
  have HB : Hid (BR w5 P l5) := hb
  clear hb ho
  have HK5 := kZz hx
  clear hx c
  obtain ⟨R,hR⟩ : ∃ R,w.heap.size = R := ⟨_,rfl⟩
  rw [hR] at xQ hQP
  obtain ⟨y0,y1,y2⟩ := xQ.cell
  have f0 := xQ.frozen 0
  have f1 := xQ.frozen 1
  have f2 := xQ.frozen 2
  have HFX : Hid _ := (((xQ.set0 (.int .u8 k0)).set1 (.bool (m0 == 1))).set2 (.int .i64 s0))
  have HQ : Hid _ := ((Chg.set R 0 w5 (.int .u8 k0)).trans (Chg.set R 1 _ (.bool (m0 == 1)))).trans (Chg.set R 2 _ (.int .i64 s0))
  have HXQ := kZz xQ
  clear xQ
  go_wp2
  obtain ⟨q0,q1,q2⟩ := X3.cell HFX.out
  refine bodyPost_ret (v := .agg #[.int .u8 k0,.bool (m0 == 1),.int .i64 s0]) (by simp [results,Tryz.results56,go_sem,q0,q1,q2]) rfl ?_
  have kq : Kp (fun t => t != 75) w5 _ := Kp.chg HXQ.out HQ.out _ (by decide)
  exact Out.mkO HX.out (HC.out.new HQ.out (Nat.le_of_eq hR)) ⟨⟨k0,m0 == 1,s0⟩,rfl,rfl,by have := xlA (cod_kind.ok _ _ _ HBY.out HK1.out).1; exact ⟨by dsimp only; omega,by dsimp only; omega,xhV ((xnU _ (xoG k0)).ok _ _ _ HBY3.out HK4.out).1⟩⟩ (HB.out.kp kq (by decide))
 ·have hq : (op0 == 65 || op0 == 66) = true := by rw [h65,h66]; rfl
  go_wp2_with fail
  refine (xbB _ _).mono ?_
  rintro r w3 ⟨rfl,rfl⟩
  have HX1 : Hid (xlN l = _) := HX.out.trans (xaV (xdU hq _ _))
  clear HX
  have HX := kZz (HX1.out)
  clear HX1 hq
  go_wp2_with fail
  refine (xkE k0 _).mono ?_
  rintro r w3 ⟨rfl,rfl⟩
  rcases hq : (op0 == cst k0 : Bool) with _ | _
  ·go_wp2_with fail
   refine (xbA _ _).mono ?_
   rintro r w9 ⟨rfl,rfl⟩
   exact ⟨rfl,Out.mkE (HX.out.trans (xaW (by rw [hq]; rfl))) HC.out⟩
  go_wp2_with fail
  refine (xbB _ _).mono ?_
  rintro r w3 ⟨rfl,rfl⟩
  have HX1 : Hid (xlN l = _) := HX.out.trans (xaV (xdU hq _ _))
  clear HX
  have HX := kZz (HX1.out)
  clear HX1
  go_wp2_with fail
  refine (xmV k0 _).mono ?_
  rintro r w3 ⟨rfl,rfl⟩
  have HBY3 : Hid (Bts l3) := HB.out.byte
  go_wp2_with fail
  refine (xqJ P (bts k0) (xoG k0) l3 _ HB.out).mono ?_
  intro r w4 ho
  rcases hx : xmO (bts k0) l3 with x | ⟨s0,l4⟩
  ·obtain ⟨c,rfl⟩ := ho.err hx
   exact ⟨rfl,Out.mkE (HX.out.trans (xaW hx)) (HC.out.trans c)⟩
  obtain ⟨c,⟨v,rfl,rfl⟩,hb⟩ := ho.got hx
  have HX1 : Hid (xlN l = _) := HX.out.trans (xaV hx)
  clear HX
  have HX := kZz (HX1.out)
  clear HX1
  have xQ1 := xQ.chg c hQP
  clear xQ
  have xQ := xQ1
  clear xQ1
  have HC1 : Hid (Chg P w w4) := HC.out.trans c
  clear HC
  have HC : Hid (Chg P w w4) := HC1.out
  clear HC1
  clear HB
  have HB : Hid (BR w4 P l4) := hb
  clear hb ho
  have HK4 := kZz hx
  clear hx c
  go_wp2_with fail
  refine (xcA P l4 11 4 _ HB.out).mono ?_
  intro r w5 ho
  rcases hx : xfX 11 4 l4 with x | ⟨u0,l5⟩
  ·obtain ⟨c,rfl⟩ := ho.err hx
   exact ⟨rfl,Out.mkE (HX.out.trans (xaW hx)) (HC.out.trans c)⟩
  obtain ⟨c,⟨v,rfl,rfl⟩,hb⟩ := ho.got hx
  have HX1 : Hid (xlN l = _) := HX.out.trans (xaV hx)
  clear HX
  have HX := kZz (HX1.out)
  clear HX1
  have xQ1 := xQ.chg c hQP
  clear xQ
  have xQ := xQ1
  clear xQ1
  have HC1 : Hid (Chg P w w5) := HC.out.trans c
  clear HC
  have HC : Hid (Chg P w w5) := HC1.out
  clear HC1
  clear HB
  have HB : Hid (BR w5 P l5) := hb
  clear hb ho
  have HK5 := kZz hx
  clear hx c
  obtain ⟨R,hR⟩ : ∃ R,w.heap.size = R := ⟨_,rfl⟩
  rw [hR] at xQ hQP
  obtain ⟨y0,y1,y2⟩ := xQ.cell
  have f0 := xQ.frozen 0
  have f1 := xQ.frozen 1
  have f2 := xQ.frozen 2
  have HFX : Hid _ := (((xQ.set0 (.int .u8 k0)).set1 (.bool (m0 == 1))).set2 (.int .i64 s0))
  have HQ : Hid _ := ((Chg.set R 0 w5 (.int .u8 k0)).trans (Chg.set R 1 _ (.bool (m0 == 1)))).trans (Chg.set R 2 _ (.int .i64 s0))
  have HXQ := kZz xQ
  clear xQ
  go_wp2
  obtain ⟨q0,q1,q2⟩ := X3.cell HFX.out
  refine bodyPost_ret (v := .agg #[.int .u8 k0,.bool (m0 == 1),.int .i64 s0]) (by simp [results,Tryz.results56,go_sem,q0,q1,q2]) rfl ?_
  have kq : Kp (fun t => t != 75) w5 _ := Kp.chg HXQ.out HQ.out _ (by decide)
  exact Out.mkO HX.out (HC.out.new HQ.out (Nat.le_of_eq hR)) ⟨⟨k0,m0 == 1,s0⟩,rfl,rfl,by have := xlA (cod_kind.ok _ _ _ HBY.out HK1.out).1; exact ⟨by dsimp only; omega,by dsimp only; omega,xhV ((xnU _ (xoG k0)).ok _ _ _ HBY3.out HK4.out).1⟩⟩ (HB.out.kp kq (by decide))
theorem ymW (P : Nat) (l : List Int) (w : World) (h : BR w P l) :
  Calls Tryz.prog 65 #[.pointer (some ⟨P,0,none⟩)] w (Out P ynY (xuR l) w) := by
 have hPw := h.lt
 have bA : Below w.heap.size w (w.alloc (.cells #[.int .i64 0,.string ⟨#[]⟩] 82)) := (Below.refl _ _).alloc (Nat.le_refl _) _
 have HB : Hid (BR (w.alloc (.cells #[.int .i64 0,.string ⟨#[]⟩] 82)) P l) := h.under bA
 have HC : Hid (Chg P w (w.alloc (.cells #[.int .i64 0,.string ⟨#[]⟩] 82))) := Chg.of_below bA
 have xQ : X2 82 (w.alloc (.cells #[.int .i64 0,.string ⟨#[]⟩] 82)) w.heap.size (.int .i64 0) (.string ⟨#[]⟩) := xaZ _ _
 have hQP : w.heap.size ≠ P := by omega
 clear bA
 clear h
 go_enter Tryz.func65,Tryz.ntmps65
 have HBY : Hid (Bts l) := HB.out.byte
 go_wp2_with fail
 refine (ycX P l _ HB.out).mono ?_
 intro r w1 ho
 rcases hx : xfP l with x | ⟨a0,l1⟩
 ·obtain ⟨c,rfl⟩ := ho.err hx
  exact ⟨rfl,Out.mkE (xaW hx) (HC.out.trans c)⟩
 obtain ⟨c,⟨v,rfl,rfl⟩,hb⟩ := ho.got hx
 have HX1 : Hid (xuR l = _) := xaV hx
 have HX := kZz (HX1.out)
 clear HX1
 have xQ1 := xQ.chg c hQP
 clear xQ
 have xQ := xQ1
 clear xQ1
 have HC1 : Hid (Chg P w w1) := HC.out.trans c
 clear HC
 have HC : Hid (Chg P w w1) := HC1.out
 clear HC1
 clear HB
 have HB : Hid (BR w1 P l1) := hb
 clear hb ho
 have HK1 := kZz hx
 clear hx c
 have HBY1 : Hid (Bts l1) := HB.out.byte
 go_wp2_with fail
 refine (xeX P 64 l1 _ HB.out).mono ?_
 intro r w2 ho
 rcases hx : xbX 64 l1 with x | ⟨n0,l2⟩
 ·obtain ⟨c,rfl⟩ := ho.err hx
  exact ⟨rfl,Out.mkE (HX.out.trans (xaW hx)) (HC.out.trans c)⟩
 obtain ⟨c,⟨v,rfl,rfl⟩,hb⟩ := ho.got hx
 have HX1 : Hid (xuR l = _) := HX.out.trans (xaV hx)
 clear HX
 have HX := kZz (HX1.out)
 clear HX1
 have xQ1 := xQ.chg c hQP
 clear xQ
 have xQ := xQ1
 clear xQ1
 have HC1 : Hid (Chg P w w2) := HC.out.trans c
 clear HC
 have HC : Hid (Chg P w w2) := HC1.out
 clear HC1
 clear HB
 have HB : Hid (BR w2 P l2) := hb
 clear hb ho
 have HK2 := kZz hx
 clear hx c
 have hn0 := ((xbM 64 (by omega)).ok _ _ _ HBY1.out HK2.out).1.1
 have hfew := HB.out.few
 go_wp2_with fail
 refine (xkQ P l2 n0 hn0 _ HB.out).mono ?_
 intro r w3 ho
 rcases hx : xbR n0 l2 with x | ⟨s0,l3⟩
 ·obtain ⟨c,rfl⟩ := ho.err hx
  exact ⟨rfl,Out.mkE (HX.out.trans (xaW hx)) (HC.out.trans c)⟩
 obtain ⟨c,⟨v,rfl,T3,hT3,rfl⟩,hb⟩ := ho.got hx
 have HX1 : Hid (xuR l = _) := HX.out.trans (xaV hx)
 clear HX
 have HX := kZz (HX1.out)
 clear HX1
 have xQ1 := xQ.chg c hQP
 clear xQ
 have xQ := xQ1
 clear xQ1
 have HC1 : Hid (Chg P w w3) := HC.out.trans c
 clear HC
 have HC : Hid (Chg P w w3) := HC1.out
 clear HC1
 clear HB
 have HB : Hid (BR w3 P l3) := hb
 clear hb ho
 have HT3 : Hid (xaX T3 = s0) := hT3
 clear hT3
 have HK3 := kZz hx
 clear hx c
 have hT3 : T3.size <= 4096 := by
  have h1 := (xoQ HK3.out).1
  rw [<- HT3.out,xaY] at h1
  omega
 have HZ : Hid (T3.size <= maxLen) := by unfold Hid maxLen; omega
 go_wp2_with fail
 refine (xqM T3 _ (by omega)).mono ?_
 rintro r w4 ⟨rfl,b4⟩
 have xQ1 := xQ.chg (Chg.of_below (P := P) b4) hQP
 clear xQ
 have xQ := xQ1
 have HC1 : Hid (Chg P w w4) := HC.out.trans (Chg.of_below b4)
 clear HC
 have HC : Hid (Chg P w w4) := HC1.out
 have HB1 : Hid (BR w4 P l3) := HB.out.under b4
 clear HB
 have HB : Hid (BR w4 P l3) := HB1.out
 clear HB1 HC1 xQ1 b4 hT3
 obtain ⟨R,hR⟩ : ∃ R,w.heap.size = R := ⟨_,rfl⟩
 rw [hR] at xQ hQP
 obtain ⟨y0,y1⟩ := xQ.cell
 have f0 := xQ.frozen 0
 have f1 := xQ.frozen 1
 have HFX : Hid _ := ((xQ.set0 (.int .i64 a0)).set1 (.string T3))
 have HQ : Hid _ := (Chg.set R 0 w4 (.int .i64 a0)).trans (Chg.set R 1 _ (.string T3))
 have HXQ := kZz xQ
 clear xQ
 go_wp2
 obtain ⟨q0,q1⟩ := X2.cell HFX.out
 refine bodyPost_ret (v := .agg #[.int .i64 a0,.string T3]) (by simp [results,Tryz.results65,go_sem,q0,q1]) rfl ?_
 have kq : Kp (fun t => t != 82) w4 _ := Kp.chg HXQ.out HQ.out _ (by decide)
 exact Out.mkO HX.out (HC.out.new HQ.out (Nat.le_of_eq hR)) ⟨⟨a0,T3⟩,rfl,by rw [<- HT3.out]; rfl,xhV (cod_place.ok _ _ _ HBY.out HK1.out).1,HZ.out⟩ (HB.out.kp kq (by decide))
end Go.Proofs.YtmmjgdaamkdncaaGreatDoor
