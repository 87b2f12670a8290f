import Derived.Test.YtmmjgdaamkdncaaGreatDoorARE
import Derived.Test.YtmmjgdaamkdncaaGreatDoorAQP
import Derived.Test.YtmmjgdaamkdncaaGreatDoorARNRd
import Derived.Deep.RegionHeld3
namespace Go.Proofs.YtmmjgdaamkdncaaGreatDoor
set_option maxHeartbeats 4000000
set_option maxRecDepth 1000000
open Go.RowKit
set_option linter.unusedVariables false
structure ChgA (A : List Nat) (w w' : World) : Prop where
 os : w'.os = w.os
 tape : w'.tape = w.tape
 output : w'.output = w.output
 size : w.heap.size <= w'.heap.size
 block : ∀ k,k < w.heap.size -> k ∉ A -> w'.heap[k]? = w.heap[k]?
theorem ChgA.refl (A : List Nat) (w : World) : ChgA A w w := ⟨rfl,rfl,rfl,Nat.le_refl _,fun _ _ _ => rfl⟩
theorem ChgA.chg {A : List Nat} {w w1 w2 : World} {P : Nat} (h : ChgA A w w1) (c : Chg P w1 w2) (hP : P ∈ A \/ w.heap.size <= P) : ChgA A w w2 :=
 ⟨c.os.trans h.os,c.tape.trans h.tape,c.output.trans h.output,Nat.le_trans h.size c.size,fun k hk ha => by
  rw [c.block k (Nat.lt_of_lt_of_le hk h.size) (fun e => by
   rcases hP with q | q
   ·exact ha (by rw [e]; exact q)
   ·omega)]
  exact h.block k hk ha⟩
theorem ChgA.below {A : List Nat} {w w1 w2 : World} {n : Nat} (h : ChgA A w w1) (b : Below n w1 w2) (hn : w.heap.size <= n) : ChgA A w w2 :=
 ⟨b.os.trans h.os,b.tape.trans h.tape,b.output.trans h.output,Nat.le_trans h.size b.size,fun k hk ha => by
  rw [b.block k (by omega)]
  exact h.block k hk ha⟩
theorem ChgA.grown {A : List Nat} {w w1 w2 : World} {B n k cap : Nat} {o : Option Addr} {T : TypeId} {xs : List Value} (c : ChgA A w w1) (h : w1.ownsRow B T k (.slice o n cap) n xs) (g : w1.grownBy w2 (Value.slice o n cap).ownBlock) (hB : w.heap.size <= B) : ChgA A w w2 :=
 ⟨g.os.trans c.os,g.tape.trans c.tape,g.output.trans c.output,Nat.le_trans c.size g.size,fun j hj hP => by
  rw [g.block j (Nat.lt_of_lt_of_le hj c.size) (fun e => by
   rcases h.2 with ⟨h1,_⟩ | ⟨b,cc,cu,h1,h2,_⟩
   ·rw [h1] at e
    simp [Value.ownBlock] at e
   ·rw [h1] at e
    simp only [Value.ownBlock,Option.some.injEq] at e
    omega)]
  exact c.block j hj hP⟩
theorem ChgA.to {A : List Nat} {w w' : World} (h : ChgA A w w') (n : Nat) (hA : ∀ k ∈ A,n <= k) (hn : n <= w.heap.size) : Below n w w' :=
 ⟨h.os,h.tape,h.output,h.size,fun k hk => h.block k (by omega) (fun q => by have := hA k q; omega)⟩
theorem CL.chg {w w' : World} {P D : Nat} {l : List Int} {n a : Int} (h : CL w D l n a) (c : Chg P w w') (hD : D ≠ P) : CL w' D l n a := h.heap (c.block D h.lt hD)
theorem CL.kp {w w' : World} {D : Nat} {l : List Int} {n a : Int} {S : TypeId -> Bool} (h : CL w D l n a) (q : Kp S w w') (hS : S 45 = true) : CL w' D l n a := by
 obtain ⟨s,h1,h2,h3⟩ := h
 refine ⟨s,h1,h2,?_⟩
 unfold CS at h3 ⊢
 rw [q.blk _ _ _ _ h3 hS,h3]
theorem CL.apart {w : World} {D X : Nat} {l : List Int} {n a : Int} {cs : Array Value} {T : TypeId} {f : Nat × Nat} (h : CL w D l n a) (hx : w.heap[X]? = some (.cells cs T f)) (hT : T ≠ 45) : X ≠ D := by
 intro e
 obtain ⟨s,_,_,h3⟩ := h
 unfold CS at h3
 rw [e,h3] at hx
 simp only [Option.some.injEq,Obj.cells.injEq] at hx
 exact hT hx.2.1.symm
theorem Kp.cur {w w' : World} {P : Nat} {l : List Int} {n a : Int} (h : CL w P l n a) (c : Chg P w w') (S : TypeId -> Bool) (hS : S 45 = false) : Kp S w w' := by
 obtain ⟨s,_,_,h⟩ := h
 exact Kp.chg h c S hS
theorem X3.kp {T : TypeId} {w w' : World} {X : Nat} {c0 c1 c2 : Value} {S : TypeId -> Bool} (h : X3 T w X c0 c1 c2) (q : Kp S w w') (hS : S T = true) : X3 T w' X c0 c1 c2 := by
 unfold X3 at h ⊢
 rw [q.blk _ _ _ _ h hS,h]
theorem MaxIn.b4 {w w' : World} (h : MaxIn w) (b : Below 4 w w') : MaxIn w' := h.of_cell (b.cell (p := ⟨conRen.g 1,0,none⟩) (by decide))
abbrev KR (w : World) (B : Nat) (o : Option Addr) (n cap : Nat) (L : List Int) : Prop := LR w B 57 1 (fun x : Int => [Value.int .u8 x]) (fun (_ : World) (x : Int) => (Lit.int .u8 x).wf = true) o n cap L
theorem xtM (n : Nat) (acc l : List Int) (a : Int) : xfW (n + 1) acc l a = xfW n (if xcP (decide (16 < (acc.length : Int) + (xaK l a).1)) 2 (xbU (xaK l a).2.1 (xaK l a).2.2).2.2 = 0 then acc ++ List.replicate (xaK l a).1.toNat (xbU (xaK l a).2.1 (xaK l a).2.2).1 else acc) (xbU (xaK l a).2.1 (xaK l a).2.2).2.1 (xcP (decide (16 < (acc.length : Int) + (xaK l a).1)) 2 (xbU (xaK l a).2.1 (xaK l a).2.2).2.2) := rfl
theorem xiM (l : List Int) (a : Int) (h : ∀ b ∈ l,0 <= b /\ b < 256) : 0 <= (xbU l a).1 /\ (xbU l a).1 < 256 := xeD l a h
theorem yhV (D X : Nat) (t : List Int) (nn : Int) (w : World) (h : CL w D t nn 0) (hx : X3 55 w X (.int .i64 0) (.slice none 0 0) (.slice none 0 0)) (hM : MaxIn w) (hD4 : 4 <= D) (hX4 : 4 <= X) (hw4 : 4 <= w.heap.size) :
  Calls Tryz.prog 69 #[.pointer (some ⟨D,0,none⟩),.pointer (some ⟨X,0,none⟩)] w fun r w' => r = .returned (.tuple #[]) /\ CL w' D (xfO t 0).2.1 nn (xfO t 0).2.2 /\ ChgA [D,X] w w' /\ ∃ d : FunD,d.t = 0 /\ X3 55 w' X (.int .i64 0) (.slice d.l.o d.l.n d.l.cap) (.slice d.o d.b.length d.cap) /\ ((xfO t 0).2.2 = 0 -> d.cod = (xfO t 0).1 /\ FunG w' d) := by
 obtain ⟨i0,hi,hz0,hz1,hz2⟩ := info_parts Tryz.infoLkin
 have hXD : X ≠ D := h.apart hx (by decide)
 have HC := kZz (xdN D 16 t nn 0 w h)
 have HX := kZz hx
 have HM : Hid (MaxIn w) := hM
 have HFE : Hid (xfO t 0 = (⟨(xfW (xaN 16 t 0).1.toNat [] (xaN 16 t 0).2.1 (xaN 16 t 0).2.2).1,(xiL (xfW (xaN 16 t 0).1.toNat [] (xaN 16 t 0).2.1 (xaN 16 t 0).2.2).2.1 (xfW (xaN 16 t 0).1.toNat [] (xaN 16 t 0).2.1 (xaN 16 t 0).2.2).2.2).1⟩,(xiL (xfW (xaN 16 t 0).1.toNat [] (xaN 16 t 0).2.1 (xaN 16 t 0).2.2).2.1 (xfW (xaN 16 t 0).1.toNat [] (xaN 16 t 0).2.1 (xaN 16 t 0).2.2).2.2).2)) := rfl
 have hc0 : 0 <= (xaN 16 t 0).1 /\ (xaN 16 t 0).1 <= 16 := by
  have := xcB t 0 h.byte
  unfold xaN
  dsimp only
  split
  ·rename_i hz
   refine ⟨this.1,?_⟩
   unfold xcP at hz
   by_cases hq : 16 < (xaK t 0).1
   ·rw [decide_eq_true hq,if_pos rfl] at hz
    unfold xbD at hz
    split at hz
    ·cases hz
    ·rename_i hq2; exact absurd hz hq2
   ·omega
  ·omega
 generalize xfO t 0 = qf at HFE ⊢
 generalize xaN 16 t 0 = z at HC HFE hc0
 obtain ⟨m0,l1,a1⟩ := z
 dsimp only at HC HFE hc0
 obtain ⟨m,rfl⟩ : ∃ m : Nat,m0 = (m : Int) := ⟨m0.toNat,by omega⟩
 have hm16 : m <= 16 := by omega
 rw [Int.toNat_natCast] at HFE
 clear h hx hM hc0
 go_enter Tryz.func69,Tryz.ntmps69
 go_wp2_with fail
 refine HC.out.mono ?_
 rintro r w1 ⟨rfl,h1,c1⟩
 have HL1 : Hid (CL w1 D l1 nn a1) := h1
 have HX1 : Hid (X3 55 w1 X (.int .i64 0) (.slice none 0 0) (.slice none 0 0)) := HX.out.chg c1 hXD
 have HW1 : Hid (ChgA [D,X] w w1) := (ChgA.refl _ _).chg c1 (Or.inl (by simp))
 clear h1 c1 HC HX
 go_wp2
 go_loopw [11] (fun iv wr => ∃ i n cap : Nat,∃ o : Option Addr,∃ L li : List Int,∃ ai : Int,iv = .int .i64 (i : Int) /\ i <= m /\ n <= 16 /\ Hid (X3 55 wr X (.int .i64 0) (.slice o n cap) (.slice none 0 0)) /\ Hid (KR wr w.heap.size o n cap L) /\ Hid (CL wr D li nn ai) /\ Hid (xfW m [] l1 a1 = xfW (m - i) L li ai) /\ Hid (ChgA [D,X] w wr)) (fun iv _ => m - (intOf iv).toNat)
 case atStart => exact ⟨0,0,0,none,[],l1,a1,rfl,by omega,by omega,HX1,LR.nil _ _ _ _ _ _,HL1,rfl,HW1⟩
 case round =>
  obtain ⟨i,n,cap,o,L,li,ai,rfl,him,hn16,HXR,HKR,HLR,HT,HW⟩ := hrel
  clear HX1 HL1 HW1
  by_cases hlt : i < m
  ·have HT1 : Hid (xfW m [] l1 a1 = xfW (m - (i + 1) + 1) L li ai) := by unfold Hid; rw [HT.out,show m - (i + 1) + 1 = m - i by omega]
   have HN := kZz (xoC D li nn ai wr HLR.out)
   have hsz := xcB li ai HLR.out.byte
   rw [xtM] at HT1
   generalize xaK li ai = zn at HN HT1 hsz
   obtain ⟨sz,l2,a2⟩ := zn
   dsimp only at HN HT1 hsz
   clear HT
   go_wp2_with fail
   refine HN.out.mono ?_
   rintro r w2 ⟨rfl,h2,c2⟩
   have HX2 : Hid (X3 55 w2 X (.int .i64 0) (.slice o n cap) (.slice none 0 0)) := HXR.out.chg c2 hXD
   have HK2 : Hid (KR w2 w.heap.size o n cap L) := HKR.out.kp (Kp.cur HLR.out c2 (fun t => t != 45) (by decide)) (by decide) (fun _ hd => hd)
   have HW2 : Hid (ChgA [D,X] w w2) := HW.out.chg c2 (Or.inl (by simp))
   have HKD := kZz (xzF D l2 nn a2 w2 h2)
   have HL2 : Hid (CL w2 D l2 nn a2) := h2
   have hkb := xiM l2 a2 h2.byte
   generalize xbU l2 a2 = zk at HKD HT1 hkb
   obtain ⟨k,l3,a3⟩ := zk
   dsimp only at HKD HT1 hkb
   clear h2 c2 HN HXR HKR HLR HW
   go_wp2_with fail
   refine HKD.out.mono ?_
   rintro r w3 ⟨rfl,h3,c3⟩
   have HX3 : Hid (X3 55 w3 X (.int .i64 0) (.slice o n cap) (.slice none 0 0)) := HX2.out.chg c3 hXD
   have HK3 : Hid (KR w3 w.heap.size o n cap L) := HK2.out.kp (Kp.cur HL2.out c3 (fun t => t != 45) (by decide)) (by decide) (fun _ hd => hd)
   have HW3 : Hid (ChgA [D,X] w w3) := HW2.out.chg c3 (Or.inl (by simp))
   have HL3 : Hid (CL w3 D l3 nn a3) := h3
   have hLn := HK3.out.len
   have hcl := (HK3.out.capm).1
   have hcm := (HK3.out.capm).2
   unfold maxLen at hcm
   rw [hLn] at HT1
   obtain ⟨y0,y1,y2⟩ := HX3.out.cell
   clear h3 c3 HKD HX2 HK2 HL2 HW2
   go_wp2_with fail
   refine (HL3.out.say _ _).mono ?_
   rintro r w4 ⟨rfl,h4,c4⟩
   have HX4 : Hid (X3 55 w4 X (.int .i64 0) (.slice o n cap) (.slice none 0 0)) := HX3.out.chg c4 hXD
   have HK4 : Hid (KR w4 w.heap.size o n cap L) := HK3.out.kp (Kp.cur HL3.out c4 (fun t => t != 45) (by decide)) (by decide) (fun _ hd => hd)
   have HW4 : Hid (ChgA [D,X] w w4) := HW3.out.chg c4 (Or.inl (by simp))
   obtain ⟨s,hs⟩ : ∃ s,s = xcP (decide (16 < (n : Int) + sz)) 2 a3 := ⟨_,rfl⟩
   have HL4 : Hid (CL w4 D l3 nn s) := by unfold Hid; rw [hs]; exact h4
   rw [<- hs] at HT1
   have HSD := kZz hs
   have HLN : Hid (L.length = n) := hLn
   clear h4 c4 HX3 HK3 HL3 HW3 y0 y1 y2 hcl hcm hs hLn
   go_wp2
   by_cases h0 : s = 0
   ·subst h0
    have hfew : (n : Int) + sz <= 16 := by
     have := HSD.out
     unfold xcP at this
     by_cases hq : 16 < (n : Int) + sz
     ·rw [decide_eq_true hq,if_pos rfl] at this
      unfold xbD at this
      split at this
      ·cases this
      ·rename_i hq2; exact absurd this.symm hq2
     ·omega
    obtain ⟨z,rfl⟩ : ∃ z : Nat,sz = (z : Int) := ⟨sz.toNat,by omega⟩
    rw [if_pos rfl,Int.toNat_natCast] at HT1
    have hz16 : n + z <= 16 := by omega
    have HKW : Hid ((Lit.int .u8 k).wf = true) := xuM (by omega) (by omega)
    clear HSD hfew hsz
    go_loopw [5] (fun jv wr => ∃ j c : Nat,∃ p : Option Addr,jv = .int .i64 (j : Int) /\ j <= z /\ Hid (X3 55 wr X (.int .i64 0) (.slice p (n + j) c) (.slice none 0 0)) /\ Hid (KR wr w.heap.size p (n + j) c (L ++ List.replicate j k)) /\ Hid (CL wr D l3 nn 0) /\ Hid (ChgA [D,X] w wr)) (fun jv _ => z - (intOf jv).toNat)
    case atStart => exact ⟨0,cap,o,rfl,by omega,HX4,by unfold Hid; rw [List.replicate_zero,List.append_nil]; exact HK4.out,HL4,HW4⟩
    case round =>
     obtain ⟨j,c,p,rfl,hjz,HX5,HK5,HL5,HW5⟩ := hrel
     clear HX4 HK4 HL4 HW4
     obtain ⟨e0,e1,e2⟩ := (HL5.out.choose_spec.2.2).cell
     by_cases hjl : j < z
     ·obtain ⟨y0,y1,y2⟩ := HX5.out.cell
      have f1 := HX5.out.frozen 1
      have hcl := (HK5.out.capm).1
      have hcm := (HK5.out.capm).2
      unfold maxLen at hcm
      have hs5 := HW5.out.size
      have hlast : (wr.alloc (.cells #[.int .u8 k] 57)).cell? ⟨X,1,none⟩ = some (.slice p (n + j) c) := by
       rw [Below.cell ((Below.refl wr.heap.size wr).alloc (Nat.le_refl _) _) (p := ⟨X,1,none⟩) HX5.out.lt]
       exact y1
      have HBA : Hid (Below wr.heap.size wr (wr.alloc (.cells #[.int .u8 k] 57))) := (Below.refl _ _).alloc (Nat.le_refl _) _
      clear e1
      go_wp2_with (at_builtin; refine wpList_append_lies _ rfl _ _ 52 rfl w.heap.size 57 i0 (.int .u8 0) 1 1 Tryz.underlying52 hi hz0 hz1 hz2 rfl (by omega) _ (n + j) ((L ++ List.replicate j k).flatMap (fun x : Int => [Value.int .u8 x])) rfl (HK5.out.own.alloc _) ⟨wr.heap.size,0,none⟩ 1 1 [.int .u8 k] rfl rfl (World.news_of_block (cs := #[.int .u8 k]) (t := 57) (fr := (0,0)) (heap_alloc_new wr _)) (by simp [Value.oneCell']) (by omega) (by unfold maxLen; omega) (by omega) (by simp; omega) (wr.heap.size + 1) (by simp) ?_)
      intro g capg w6 hown hgrow hat hlt6
      have qB : Kp (fun t => t != 57) wr w6 := (Kp.below _ HBA.out).trans (Kp.grown (HK5.out.own.alloc _) hgrow _ (by decide))
      have HX6 : Hid (X3 55 w6 X (.int .i64 0) (.slice p (n + j) c) (.slice none 0 0)) := HX5.out.kp qB (by decide)
      have HL6 : Hid (CL w6 D l3 nn 0) := HL5.out.kp qB (by decide)
      have HW6 : Hid (ChgA [D,X] w w6) := (HW5.out.below HBA.out hs5).grown (HK5.out.own.alloc _) hgrow (Nat.le_refl _)
      have HK6 : Hid (KR w6 w.heap.size (some ⟨g,0,none⟩) (n + j + 1) capg (L ++ List.replicate (j + 1) k)) := by
       unfold Hid
       rw [List.replicate_succ',<- List.append_assoc]
       exact HK5.out.app (fun _ hd => hd) HKW.out (by rw [List.flatMap_append,List.append_assoc]; exact hown)
      clear y0 y1 y2 f1
      obtain ⟨y0,y1,y2⟩ := HX6.out.cell
      have f1 := HX6.out.frozen 1
      have HS7 : Hid (Chg X w6 (w6.setCell ⟨X,1,none⟩ (.slice (some ⟨g,0,none⟩) (n + j + 1) capg))) := Chg.set _ _ _ _
      have HX7 : Hid (X3 55 (w6.setCell ⟨X,1,none⟩ (.slice (some ⟨g,0,none⟩) (n + j + 1) capg)) X (.int .i64 0) (.slice (some ⟨g,0,none⟩) (n + j + 1) capg) (.slice none 0 0)) := HX6.out.set1 _
      have HK7 : Hid (KR (w6.setCell ⟨X,1,none⟩ (.slice (some ⟨g,0,none⟩) (n + j + 1) capg)) w.heap.size (some ⟨g,0,none⟩) (n + j + 1) capg (L ++ List.replicate (j + 1) k)) := HK6.out.kp (Kp.chg HX6.out HS7.out (fun t => t != 55) (by decide)) (by decide) (fun _ hd => hd)
      have HL7 : Hid (CL (w6.setCell ⟨X,1,none⟩ (.slice (some ⟨g,0,none⟩) (n + j + 1) capg)) D l3 nn 0) := HL6.out.chg HS7.out hXD.symm
      have HW7 : Hid (ChgA [D,X] w (w6.setCell ⟨X,1,none⟩ (.slice (some ⟨g,0,none⟩) (n + j + 1) capg))) := HW6.out.chg HS7.out (Or.inl (by simp))
      clear e0 e2 hown hgrow hat hlt6 qB HX5 HK5 HL5 HW5 HX6 HK6 HL6 HW6 HS7 HBA hlast
      go_wp2
      go_roundw
      case rel => exact ⟨j + 1,capg,_,by go_num,by omega,HX7,HK7,HL7,HW7⟩
      case measure => simp [intOf]; omega
     ·have ejz : j = z := by omega
      subst ejz
      go_wp2
      go_roundw
      case rel => exact ⟨i + 1,n + j,c,p,_,l3,0,by go_num,by omega,by omega,HX5,HK5,HL5,HT1,HW5⟩
      case measure => simp [intOf]; omega
   ·have hb : (s == 0) = false := by rw [beq_eq_false_iff_ne]; exact h0
    rw [if_neg h0] at HT1
    have HS0 : Hid (s ≠ 0) := h0
    clear h0
    go_loopw [5] (fun jv wr => jv = .int .i64 0 /\ Hid (wr = w4)) (fun _ _ => 0)
    case atStart => exact ⟨rfl,rfl⟩
    case round =>
     obtain ⟨rfl,HE⟩ := hrel
     have e := HE.out
     subst e
     obtain ⟨e0,e1,e2⟩ := (HL4.out.choose_spec.2.2).cell
     by_cases hz0 : 0 < sz
     ·go_wp2
      go_roundw
      case rel => exact ⟨i + 1,n,cap,o,L,l3,s,by go_num,by omega,by omega,HX4,HK4,HL4,HT1,HW4⟩
      case measure => simp [intOf]; omega
     ·go_wp2
      go_roundw
      case rel => exact ⟨i + 1,n,cap,o,L,l3,s,by go_num,by omega,by omega,HX4,HK4,HL4,HT1,HW4⟩
      case measure => simp [intOf]; omega
  ·have HT2 : Hid (xfW m [] l1 a1 = (L,li,ai)) := by unfold Hid; rw [HT.out,show m - i = 0 by omega]; rfl
   have hLn := HKR.out.len
   have hk2 := HKR.out.capm
   rw [HT2.out] at HFE
   dsimp only at HFE
   clear HT HT2
   obtain ⟨s,hs,hms,hcs⟩ := HLR.out
   obtain ⟨e0,e1,e2⟩ := hcs.cell
   have HCS : Hid (CS wr D s nn ai) := hcs
   have HNS : Hid (xaX s = li) := hs
   have HMS : Hid (s.size <= maxLen) := hms
   clear hs hms hcs
   by_cases h0 : ai = 0
   ·subst h0
    have hM4 : MaxIn wr := HM.out.b4 (HW.out.to 4 (by simp; omega) hw4)
    have HN := kZz (xtT s HMS.out wr hM4)
    have HSF : Hid (∀ V r,nRd 200 (xaX s) [] = (0,V,r) -> r <:+ xaX s) := fun V r e => (xrE 200 _ _ _ _ (xaE s) e).2.2.2.2.2.1
    clear hM4
    go_wp2_with fail
    refine HN.out.mono ?_
    rintro r w2 ⟨b2,⟨he,rfl⟩ | ⟨he,ob,cb,LB,rfl,hI,hLB⟩⟩
    ·have HBD : Hid (xiL li 0 = ([],li,(nRd 200 (xaX s) []).1)) := by
      unfold Hid xiL xfF
      rw [if_pos rfl,<- HNS.out,if_neg he]
     rw [HBD.out] at HFE
     generalize (nRd 200 (xaX s) []).1 = e at he HFE
     have HE0 : Hid (e ≠ 0) := he
     have HC2 : Hid (CS w2 D s nn 0) := HCS.out.below b2
     have HX2 : Hid (X3 55 w2 X (.int .i64 0) (.slice o n cap) (.slice none 0 0)) := HXR.out.kp (Kp.below (fun _ => true) b2) rfl
     have HK2 : Hid (KR w2 w.heap.size o n cap L) := HKR.out.kp (Kp.below (fun _ => true) b2) rfl (fun _ hd => hd)
     have HW2 : Hid (ChgA [D,X] w w2) := HW.out.below b2 HW.out.size
     clear he b2 HN HSF HBD HCS HXR HKR HW HLR
     go_wp2_with fail
     refine (xgV D s nn 0 e 0 _ HC2.out HE0.out).mono ?_
     rintro r w3 ⟨rfl,h3,c3⟩
     have HX3 : Hid (X3 55 w3 X (.int .i64 0) (.slice o n cap) (.slice none 0 0)) := HX2.out.chg c3 hXD
     have HL3 : Hid (CL w3 D li nn e) := ⟨s,HNS.out,HMS.out,by rw [xdG] at h3; exact h3⟩
     have HW3 : Hid (ChgA [D,X] w w3) := HW2.out.chg c3 (Or.inl (by simp))
     obtain ⟨y0,y1,y2⟩ := HX3.out.cell
     have f2 := HX3.out.frozen 2
     have HX4 : Hid (X3 55 (w3.setCell ⟨X,2,none⟩ (.slice none 0 0)) X (.int .i64 0) (.slice o n cap) (.slice none 0 0)) := HX3.out.set2 _
     have HS4 : Hid (Chg X w3 (w3.setCell ⟨X,2,none⟩ (.slice none 0 0))) := Chg.set _ _ _ _
     clear h3 c3 HC2 HX2 HW2 HK2
     go_wp2
     go_end0
     refine ⟨rfl,?_,HW3.out.chg HS4.out (Or.inl (by simp)),⟨0,⟨o,n,cap,L⟩,none,0,[]⟩,rfl,HX4.out,?_⟩
     ·rw [HFE.out]; exact HL3.out.chg HS4.out hXD.symm
     ·rw [HFE.out]; exact fun q => absurd q HE0.out
    ·have HBD : Hid (xiL li 0 = (LB.map InsD.val,(nRd 200 (xaX s) []).2.2,0)) := by
      unfold Hid xiL xfF
      rw [if_pos rfl,<- HNS.out,if_pos he,hLB]
     rw [HBD.out] at HFE
     have hsu : (nRd 200 (xaX s) []).2.2 <:+ xaX s := HSF.out _ _ (Prod.ext he rfl)
     generalize (nRd 200 (xaX s) []).2.2 = q at HFE hsu
     have hq := xjW hsu
     have hql := hsu.length_le
     rw [xaY] at hq hql
     obtain ⟨k,hk⟩ : ∃ k : Nat,k = s.size - q.length := ⟨_,rfl⟩
     rw [<- hk] at hq
     rw [show (s.size : Int) - (q.length : Int) = (k : Int) by omega]
     have hks : k <= s.size := by omega
     have HQ : Hid (xaX (s.extract k s.size) = q) := by unfold Hid; rw [xbN,<- hq]
     have HC2 : Hid (CS w2 D s nn 0) := HCS.out.below b2
     have HX2 : Hid (X3 55 w2 X (.int .i64 0) (.slice o n cap) (.slice none 0 0)) := HXR.out.kp (Kp.below (fun _ => true) b2) rfl
     have HK2 : Hid (KR w2 w.heap.size o n cap L) := HKR.out.kp (Kp.below (fun _ => true) b2) rfl (fun _ hd => hd)
     have HW2 : Hid (ChgA [D,X] w w2) := HW.out.below b2 HW.out.size
     have HI2 := kZz hI
     clear he b2 HN HSF HBD HCS HXR HKR HW HLR hI hLB hsu hq hql hk
     go_wp2_with fail
     refine (xiZ D s nn k _ HC2.out hks HMS.out).mono ?_
     rintro r w3 ⟨rfl,h3,c3⟩
     have hL2 : CL w2 D (xaX s) nn 0 := ⟨s,rfl,HMS.out,HC2.out⟩
     have HX3 : Hid (X3 55 w3 X (.int .i64 0) (.slice o n cap) (.slice none 0 0)) := HX2.out.chg c3 hXD
     have HL3 : Hid (CL w3 D q nn 0) := ⟨_,HQ.out,xbF s k HMS.out,h3⟩
     have HW3 : Hid (ChgA [D,X] w w3) := HW2.out.chg c3 (Or.inl (by simp))
     have HK3 : Hid (KR w3 w.heap.size o n cap L) := HK2.out.kp (Kp.cur hL2 c3 (fun t => t != 45) (by decide)) (by decide) (fun _ hd => hd)
     have HI3 := kZz (HI2.out.kp (Kp.cur hL2 c3 (fun t => t != 45) (by decide)) (by decide) (by decide))
     obtain ⟨y0,y1,y2⟩ := HX3.out.cell
     have f2 := HX3.out.frozen 2
     have HX4 : Hid (X3 55 (w3.setCell ⟨X,2,none⟩ (.slice ob LB.length cb)) X (.int .i64 0) (.slice o n cap) (.slice ob LB.length cb)) := HX3.out.set2 _
     have HS4 : Hid (Chg X w3 (w3.setCell ⟨X,2,none⟩ (.slice ob LB.length cb))) := Chg.set _ _ _ _
     clear h3 c3 HC2 HX2 HW2 HK2 hL2 HI2
     go_wp2
     go_end0
     have kq : Kp (fun t => t != 55) w3 (w3.setCell ⟨X,2,none⟩ (.slice ob LB.length cb)) := Kp.chg HX3.out HS4.out _ (by decide)
     refine ⟨rfl,?_,HW3.out.chg HS4.out (Or.inl (by simp)),⟨0,⟨o,n,cap,L⟩,ob,cb,LB⟩,rfl,HX4.out,?_⟩
     ·rw [HFE.out]; exact HL3.out.chg HS4.out hXD.symm
     ·intro _
      rw [HFE.out]
      exact ⟨rfl,⟨by dsimp only; omega,by dsimp only; omega⟩,(HK3.out.num).kp kq (by decide),_,HI3.out.kp kq (by decide) (by decide)⟩
   ·have hb : (ai == 0) = false := by rw [beq_eq_false_iff_ne]; exact h0
    have HBD : Hid (xiL li ai = ([],li,ai)) := by unfold Hid xiL; rw [if_neg h0]
    rw [HBD.out] at HFE
    have HN0 : Hid (ai ≠ 0) := h0
    clear h0
    go_wp2
    go_end0
    refine ⟨rfl,?_,HW.out,⟨0,⟨o,n,cap,L⟩,none,0,[]⟩,rfl,HXR.out,?_⟩
    ·rw [HFE.out]; exact HLR.out
    ·rw [HFE.out]; exact fun q => absurd q HN0.out
def FX (w : World) (X : Nat) (e : Int) (x : CodV) : Prop := ∃ d : FunD,d.t = 0 /\ X3 55 w X (.int .i64 0) (.slice d.l.o d.l.n d.l.cap) (.slice d.o d.b.length d.cap) /\ (e = 0 -> d.cod = x /\ FunG w d)
theorem FX.cur {w w' : World} {X D : Nat} {e n a : Int} {x : CodV} {l : List Int} (h : FX w X e x) (hD : CL w D l n a) (c : Chg D w w') : FX w' X e x := by
 obtain ⟨d,h1,h2,h3⟩ := h
 have q := Kp.cur hD c (fun t => t != 45) (by decide)
 exact ⟨d,h1,h2.kp q (by decide),fun he => ⟨(h3 he).1,(h3 he).2.kp q (by decide) (by decide) (by decide)⟩⟩
theorem ylU (P : Nat) (l : List Int) (n a : Int) (w : World) (h : CL w P l n a) (hM : MaxIn w) (hP4 : 4 <= P) :
  Calls Tryz.prog 43 #[.pointer (some ⟨P,0,none⟩)] w fun r w' => ∃ d : FunD,r = .returned (.agg #[.int .i64 0,.slice d.l.o d.l.n d.l.cap,.slice d.o d.b.length d.cap]) /\ d.t = 0 /\ CL w' P (xaG xfO l a).2.1 n (xaG xfO l a).2.2 /\ Chg P w w' /\ ((xaG xfO l a).2.2 = 0 -> d.cod = (xaG xfO l a).1 /\ FunG w' d) := by
 have hPw := h.lt
 obtain ⟨v0,hv0⟩ : ∃ v0,v0 = w.alloc (.cells #[.int .i64 0,.slice none 0 0,.slice none 0 0] 55) := ⟨_,rfl⟩
 obtain ⟨v,hv⟩ : ∃ v,v = v0.alloc (.cells #[.int .i64 0,.slice none 0 0,.slice none 0 0] 55) := ⟨_,rfl⟩
 have s0 : v0.heap.size = w.heap.size + 1 := by rw [hv0]; simp
 have s1 : v.heap.size = w.heap.size + 2 := by rw [hv]; simp [s0]
 have b0 : Below w.heap.size w v0 := by rw [hv0]; exact (Below.refl _ _).alloc (Nat.le_refl _) _
 have b1 : Below v0.heap.size v0 v := by rw [hv]; exact (Below.refl _ _).alloc (Nat.le_refl _) _
 have b : Below w.heap.size w v := b0.trans (b1.mono (by omega))
 have xR : X3 55 v w.heap.size (.int .i64 0) (.slice none 0 0) (.slice none 0 0) := by
  unfold X3
  rw [b1.block w.heap.size (by omega),hv0]
  exact xaZ _ _
 have xX : X3 55 v (w.heap.size + 1) (.int .i64 0) (.slice none 0 0) (.slice none 0 0) := by
  unfold X3
  rw [hv,<- s0]
  exact xaZ _ _
 have hL : CL v P l n a := h.heap (b.block P hPw)
 have hMv : MaxIn v := hM.below b
 have HWI : Hid (Calls Tryz.prog 14 #[.pointer (some ⟨P,0,none⟩),.func (.func 69) #[] #[.pointer (some ⟨w.heap.size + 1,0,none⟩)]] v fun r w' => r = .returned (.tuple #[]) /\ xqH 0 P l n a (fun t l' a' w2 => l' = (xfO t 0).2.1 /\ a' = (xfO t 0).2.2 /\ Chg P w w2 /\ X3 55 w2 w.heap.size (.int .i64 0) (.slice none 0 0) (.slice none 0 0) /\ FX w2 (w.heap.size + 1) (xfO t 0).2.2 (xfO t 0).1) v w') := by
  refine xoX 0 P _ l n a v hL (Nat.zero_le _) (Nat.zero_le _) (fun w1 => Chg P v w1) _ (fun w' c => c) ?_ ?_
  ·intro w1 D t c1 hD hDP hDv hPw1
   have hMw : MaxIn w1 := hMv.b4 (c1.below hP4 (by omega))
   refine (yhV D (w.heap.size + 1) t _ w1 hD (xX.chg c1 (by omega)) hMw (by omega) (by omega) (by have := c1.size; omega)).mono ?_
   rintro r w2 ⟨rfl,h2,c2,hd⟩
   refine ⟨rfl,_,_,h2,⟨rfl,rfl,?_,?_,hd⟩,c2.block P hPw1 (by simp; omega),⟨c2.os,c2.tape,c2.output,c2.size,fun k hk => absurd hk (Nat.not_lt_zero _)⟩⟩
   ·refine ⟨(c2.os.trans c1.os).trans b.os,(c2.tape.trans c1.tape).trans b.tape,(c2.output.trans c1.output).trans b.output,Nat.le_trans b.size (Nat.le_trans c1.size c2.size),fun k hk hkP => ?_⟩
    have := c1.size
    rw [c2.block k (by omega) (by simp; omega),c1.block k (by omega) hkP,b.block k hk]
   ·have := c1.size
    have x1 := xR.chg c1 (by omega)
    unfold X3 at x1 ⊢
    rw [c2.block w.heap.size (by omega) (by simp; omega),x1]
  ·rintro t l' a' w2 w3 D ⟨e1,e2,c,xr,fx⟩ hD ⟨lc,nc,ac,hc⟩ cD
   refine ⟨e1,e2,?_,?_,fx.cur hc cD⟩
   ·rcases hD with rfl | hD
    ·exact c.trans cD
    ·exact c.new cD (by omega)
   ·exact xr.kp (Kp.cur hc cD (fun t => t != 45) (by decide)) (by decide)
 have HV : Hid (v = v0.alloc (.cells #[.int .i64 0,.slice none 0 0,.slice none 0 0] 55)) := hv
 have HV0 : Hid (v0 = w.alloc (.cells #[.int .i64 0,.slice none 0 0,.slice none 0 0] 55)) := hv0
 have HXR := kZz xR
 have HXX := kZz xX
 have HB : Hid (Below w.heap.size w v) := b
 have hXP : w.heap.size + 1 ≠ P := by omega
 have hRP : w.heap.size ≠ P := by omega
 clear hv hv0 s0 s1 b0 b1 b xR xX hL hMv h hM
 go_enter Tryz.func43,Tryz.ntmps43
 go_wp2_with fail
 rw [<- HV0.out,<- HV.out]
 refine HWI.out.mono ?_
 rintro r w1 ⟨rfl,ho⟩
 have HO : Hid (CL w1 P (xaG xfO l a).2.1 n (xaG xfO l a).2.2 /\ Chg P w w1 /\ X3 55 w1 w.heap.size (.int .i64 0) (.slice none 0 0) (.slice none 0 0) /\ FX w1 (w.heap.size + 1) (xaG xfO l a).2.2 (xaG xfO l a).1) := by
  unfold Hid
  unfold xqH at ho
  obtain ⟨_,ho⟩ := ho
  unfold xaG
  dsimp only
  rcases ho with ⟨hne,h1,c1⟩ | ⟨he,l',a',⟨rfl,rfl,c1,xr,fx⟩,h1⟩
  ·rw [if_neg hne]
   refine ⟨h1,(Chg.of_below HB.out).trans c1,HXR.out.chg c1 hRP,⟨⟨0,⟨none,0,0,[]⟩,none,0,[]⟩,rfl,HXX.out.chg c1 hXP,fun q => absurd q hne⟩⟩
  ·rw [if_pos he]
   refine ⟨h1,c1,xr,?_⟩
   obtain ⟨d,d1,d2,d3⟩ := fx
   refine ⟨d,d1,d2,fun q => d3 ?_⟩
   dsimp only at q
   unfold xcP at q
   split at q
   ·unfold xbD at q
    split at q
    ·cases q
    ·exact q
   ·exact q
 clear ho HWI HXR HXX HB HV HV0
 obtain ⟨h1,c1,xr,d,d1,d2,d3⟩ := HO.out
 obtain ⟨t,⟨o2,n2,c2,x2⟩,o3,c3,b3⟩ := d
 dsimp only at d1 d2
 subst d1
 have HL1 := kZz h1
 have HC1 := kZz c1
 have HD3 := kZz d3
 obtain ⟨R,hR⟩ : ∃ R,w.heap.size = R := ⟨_,rfl⟩
 obtain ⟨X,hX⟩ : ∃ X,w.heap.size + 1 = X := ⟨_,rfl⟩
 rw [hR] at xr hRP
 rw [hX] at d2
 rw [hX]
 obtain ⟨x0,x1,x2'⟩ := d2.cell
 obtain ⟨y0,y1,y2⟩ := xr.cell
 have f0 := xr.frozen 0
 have f1 := xr.frozen 1
 have f2 := xr.frozen 2
 have HFX : Hid _ := ((xr.set0 (.int .i64 0)).set1 (.slice o2 n2 c2)).set2 (.slice o3 b3.length c3)
 have HQ : Hid _ := ((Chg.set R 0 w1 (.int .i64 0)).trans (Chg.set R 1 _ (.slice o2 n2 c2))).trans (Chg.set R 2 _ (.slice o3 b3.length c3))
 have HXQ := kZz xr
 clear h1 c1 xr d2 d3 HO
 go_wp2
 obtain ⟨q0,q1,q2⟩ := X3.cell HFX.out
 refine bodyPost_ret (v := .agg #[.int .i64 0,.slice o2 n2 c2,.slice o3 b3.length c3]) (by simp [results,Tryz.results43,go_sem,q0,q1,q2]) rfl ?_
 have kq : Kp (fun t => t != 55) w1 _ := Kp.chg HXQ.out HQ.out _ (by decide)
 exact ⟨⟨0,⟨o2,n2,c2,x2⟩,o3,c3,b3⟩,rfl,rfl,HL1.out.kp kq (by decide),HC1.out.new HQ.out (Nat.le_of_eq hR),fun q => ⟨(HD3.out q).1,(HD3.out q).2.kp kq (by decide) (by decide) (by decide)⟩⟩
section
variable {P : Program} {ops : Array Oper} {Q : Exit -> Act -> World -> Prop} {md : Region.Mode} {S : World -> Prop} {z : Nat}
def wpZ (P : Program) (md : Region.Mode) (ops : Array Oper) (Q : Exit -> Act -> World -> Prop) (S : World -> Prop) (z : Nat) : Nat -> Array Bool -> Act -> World -> Prop
 | 0,listed,a,w => Region.ready md ops listed = [] /\ Q .normal a w
 | fuel + 1,listed,a,w => (Region.ready md ops listed = [] -> Q .normal a w) /\ ∀ i ∈ Region.ready md ops listed,wpOp P ops Q i (fun a' w' => ((listed.setIfInBounds i true).getD z true = false -> S w') /\ wpZ P md ops Q S z fuel (listed.setIfInBounds i true) a' w') a w
theorem xuO : ∀ (fuel : Nat) (listed : Array Bool) (a : Act) (w : World),wpZ P md ops Q S z fuel listed a w -> wpAny P md ops Q fuel listed a w
 | 0,_,_,_,h => h
 | fuel + 1,_,_,_,h => ⟨h.1,fun i hi => wpOp_mono (fun a' w' h' => xuO fuel _ a' w' h'.2) (h.2 i hi)⟩
theorem xaC {id : Nat} {a : Act} {w : World} (hm : P.follows .mixedOrders = true) (h : wpZ P .any ops Q S z ops.size (Array.replicate ops.size false) a w.drew) : (Code.region id ops true).wp P Q a w :=
 wp_region_any hm (xuO _ _ _ _ h)
theorem xnP {i : Nat} {oi : Oper} {v : Value} (Si : World -> Prop) (Inv : Array Bool -> Prop) (hz : i ≠ z) (hi : ops[i]? = some oi) (hsel : Region.noSelect ops = true)
  (hQ : ∀ c a w,Q (.panic c) (a.put oi.dst v) w -> Q (.panic c) a w)
  (hInv : ∀ listed j,Inv listed -> i ∈ Region.ready md ops listed -> j ∈ Region.ready md ops listed -> j ≠ i -> Inv (listed.setIfInBounds j true) /\ ∀ w',((listed.setIfInBounds j true).getD z true = false -> S w') -> Si w') :
  ∀ (fuel : Nat) (listed : Array Bool) (a : Act) (w : World),
   (∀ j oj,ops[j]? = some oj -> j ≠ i -> listed.getD j true = false -> (∀ e ∈ oj.after,Region.binds md e = true -> e.on ≠ i) -> oi.apart ops oj = true) ->
   i ∈ Region.ready md ops listed -> YieldsIf P ops Si oi v a -> (listed.getD z true = false -> S w) -> Si w -> Inv listed -> wpZ P md ops Q S z fuel (listed.setIfInBounds i true) (a.put oi.dst v) w -> wpZ P md ops Q S z (fuel + 1) listed a w := by
 have self : ∀ (listed : Array Bool) (w : World),(listed.getD z true = false -> S w) -> (listed.setIfInBounds i true).getD z true = false -> S w := fun listed w h h2 => h (by rw [getD_set_ne true hz] at h2; exact h2)
 intro fuel
 induction fuel with
 | zero =>
  intro listed a w _ hr hy hS hSi _ H
  refine ⟨fun h => (by rw [h] at hr; cases hr),fun j hj => ?_⟩
  by_cases hji : j = i
  ·subst hji
   exact hy.wpOp hi hSi ⟨self listed w hS,H⟩
  ·have := ready_mono hj hji
   rw [H.1] at this
   cases this
 | succ fuel ih =>
  intro listed a w hfree hr hy hS hSi hI H
  refine ⟨fun h => (by rw [h] at hr; cases hr),fun j hj => ?_⟩
  by_cases hji : j = i
  ·subst hji
   exact hy.wpOp hi hSi ⟨self listed w hS,H⟩
  ·obtain ⟨hI2,hSj⟩ := hInv listed j hI hr hj hji
   have h1 := H.2 j (ready_mono hj hji)
   obtain ⟨hjun,oj,hoj,hall⟩ := mem_ready.1 hj
   have hnot : ∀ e ∈ oj.after,Region.binds md e = true -> e.on ≠ i := fun e he hb heq => by
    have h1 := hall e he hb
    have h0 := (mem_ready.1 hr).1
    rw [heq] at h1
    rw [Array.getD_eq_getD_getElem?] at h0 h1
    cases hg : listed[i]? with
    | none => rw [hg] at h1; cases h1
    | some b => rw [hg] at h0 h1; simp at h0 h1; rw [h0] at h1; cases h1
   have h2 := wpOp_putIf hoj (hfree j oj hoj hji hjun hnot) (fun cs b => Region.noSelect_spec hsel i oi cs b hi) (fun cs b => Region.noSelect_spec hsel j oj cs b hoj) hQ hy h1
   have hfree' : ∀ k ok,ops[k]? = some ok -> k ≠ i -> (listed.setIfInBounds j true).getD k true = false -> (∀ e ∈ ok.after,Region.binds md e = true -> e.on ≠ i) -> oi.apart ops ok = true := fun k ok hk hki hun hno => by
    refine hfree k ok hk hki ?_ hno
    by_cases hjk : j = k
    ·subst hjk; exact hjun
    ·rw [getD_set_ne true hjk] at hun; exact hun
   refine wpOp_mono (fun a' w' h3 => ?_) h2
   have hS' : (listed.setIfInBounds j true).getD z true = false -> S w' := fun hq => h3.2.1 (by rw [Array.setIfInBounds_comm _ _ (Ne.symm hji),getD_set_ne true hz]; exact hq)
   refine ⟨hS',ih (listed.setIfInBounds j true) a' w' hfree' (ready_mono hr (Ne.symm hji)) h3.1 hS' (hSj w' hS') hI2 ?_⟩
   rw [Array.setIfInBounds_comm _ _ hji]
   exact h3.2.2
def yfC (md : Region.Mode) (ops : Array Oper) (i : Nat) (p : List Nat) : Bool := p.all fun g => (ops[g]?).any fun o => o.after.any fun e => Region.binds md e && (e.on == i || p.contains e.on)
theorem xyZ {i : Nat} (p : List Nat) {oi : Oper} {v : Value} {fuel : Nat} {listed : Array Bool} {a a' : Act} {w : World} (hl : ops.toList[i]? = some oi)
  (hs : Region.noSelect ops = true) (hf : Region.free md ops listed i = true) (hr : (Region.ready md ops listed).contains i = true) (hp : yfC md ops i p = true) (hu : (p.all fun g => !listed.getD g true) = true) (hzp : (p.contains z && !(i == z)) = true)
  (hQ : ∀ c a w,Q (.panic c) (a.put oi.dst v) w -> Q (.panic c) a w) (hy : YieldsIf P ops S oi v a) (hS : S w)
  (h : wpZ P md ops Q S z fuel (listed.setIfInBounds i true) a' w) (ha : a.put oi.dst v = a' := by first | (simp only [Act.put,List.setIfInBounds_toArray,List.set_cons_zero,List.set_cons_succ]; done) | (simp only [Act.put,List.setIfInBounds_toArray,List.set_cons_zero,List.set_cons_succ]; rfl) | rfl) : wpZ P md ops Q S z (fuel + 1) listed a w := by
 have hi : ops[i]? = some oi := by rw [<- hl,Array.getElem?_toList]
 subst ha
 simp only [Bool.and_eq_true,Bool.not_eq_true',beq_eq_false_iff_ne,List.contains_eq_mem,decide_eq_true_eq] at hzp
 refine xnP S (fun l => ∀ g ∈ p,l.getD g true = false) hzp.2 hi hs hQ ?_ fuel listed a w (Region.free_spec hi hf) (by simpa using hr) hy (fun _ => hS) hS (fun g hg => by simpa using List.all_eq_true.1 hu g hg) h
 intro l j hI hri hrj hji
 have hjp : j ∉ p := fun hjp => by
  obtain ⟨_,o,ho,hall⟩ := mem_ready.1 hrj
  have hw := List.all_eq_true.1 hp j hjp
  rw [ho] at hw
  simp only [Option.any_some] at hw
  obtain ⟨e,he,hb⟩ := Array.any_eq_true'.1 hw
  simp only [Bool.and_eq_true,Bool.or_eq_true,beq_iff_eq,List.contains_eq_mem,decide_eq_true_eq] at hb
  have hl := hall e he hb.1
  have hn : l.getD e.on true = false := by
   rcases hb.2 with q | q
   ·rw [q]; exact (mem_ready.1 hri).1
   ·exact hI _ q
  rw [Array.getD_eq_getD_getElem?] at hl hn
  cases hg : l[e.on]? with
  | none => rw [hg] at hl; cases hl
  | some b => rw [hg] at hl hn; simp at hl hn; rw [hl] at hn; cases hn
 have hI2 : ∀ g ∈ p,(l.setIfInBounds j true).getD g true = false := fun g hg => by
  rw [getD_set_ne true (fun e => hjp (by rw [e]; exact hg))]
  exact hI g hg
 exact ⟨hI2,fun w' hq => hq (hI2 z hzp.1)⟩
theorem xxA {i : Nat} {oi : Oper} {v : Value} {fuel : Nat} {listed : Array Bool} {a a' : Act} {w : World} (hl : ops.toList[i]? = some oi)
  (hs : Region.noSelect ops = true) (hf : Region.free md ops listed i = true) (hr : (Region.ready md ops listed).contains i = true) (hz : (!(i == z)) = true)
  (hQ : ∀ c a w,Q (.panic c) (a.put oi.dst v) w -> Q (.panic c) a w) (hy : YieldsIf P ops (fun _ => True) oi v a) (hS : S w)
  (h : wpZ P md ops Q S z fuel (listed.setIfInBounds i true) a' w) (ha : a.put oi.dst v = a' := by first | (simp only [Act.put,List.setIfInBounds_toArray,List.set_cons_zero,List.set_cons_succ]; done) | (simp only [Act.put,List.setIfInBounds_toArray,List.set_cons_zero,List.set_cons_succ]; rfl) | rfl) : wpZ P md ops Q S z (fuel + 1) listed a w := by
 have hi : ops[i]? = some oi := by rw [<- hl,Array.getElem?_toList]
 subst ha
 exact xnP (fun _ => True) (fun _ => True) (by simpa using hz) hi hs hQ (fun _ _ _ _ _ _ => ⟨trivial,fun _ _ => trivial⟩) fuel listed a w (Region.free_spec hi hf) (by simpa using hr) hy (fun _ => hS) trivial trivial h
theorem xbT {i : Nat} {oi : Oper} {fuel : Nat} {listed : Array Bool} {a : Act} {w : World} (hl : ops.toList[i]? = some oi) (hr : Region.ready md ops listed = [i]) (hw : Region.wanted oi (yielded ops a.tmps) = true)
  (h : ∀ (K : Act -> World -> Prop) (R : Exit -> Act -> World -> Prop),Shut (∀ a w,S w -> (S w -> wpZ P md ops Q S z fuel (listed.setIfInBounds i true) a w) -> K a w) -> Oper.wp P oi a w K R) : wpZ P md ops Q S z (fuel + 1) listed a w := by
 have hi : ops[i]? = some oi := by rw [<- hl,Array.getElem?_toList]
 refine ⟨fun h0 => (by rw [hr] at h0; cases h0),fun j hj => ?_⟩
 rw [hr,List.mem_singleton] at hj
 subst hj
 exact wpOp_step hi (fun K hK => by rw [if_pos hw]; exact h K Q (fun a w hS hW => hK a w ⟨fun _ => hS,hW hS⟩))
theorem xgX {i f : Nat} {args : Array Value} {C : Ending -> World -> Prop} {oi : Oper} {fuel : Nat} {listed : Array Bool} {a : Act} {w : World} (hl : ops.toList[i]? = some oi) (hr : Region.ready md ops listed = [i]) (hw : Region.wanted oi (yielded ops a.tmps) = true)
  (he : (execOp a.eval oi).run P w = .ok (.enter f args) w) (hc : Calls P f args w C) (h : ∀ r w',C r w' -> ∃ v,r = .returned v /\ S w' /\ (S w' -> wpZ P md ops Q S z fuel (listed.setIfInBounds i true) (a.put oi.dst v) w')) : wpZ P md ops Q S z (fuel + 1) listed a w := by
 refine xbT hl hr hw (fun K R hK => ?_)
 unfold Oper.wp
 rw [he,Oper.upon_enter]
 refine hc.mono (fun r w' hC => ?_)
 obtain ⟨v,rfl,hS,hW⟩ := h r w' hC
 exact hK.out _ _ hS hW
theorem xaB {fuel : Nat} {listed : Array Bool} {a a' : Act} {w : World} (h : wpZ P md ops Q S z fuel listed a' w)
  (ha : a = a' := by first | (simp only [Act.put,List.setIfInBounds_toArray,List.set_cons_zero,List.set_cons_succ]; done) | (simp only [Act.put,List.setIfInBounds_toArray,List.set_cons_zero,List.set_cons_succ]; rfl) | rfl) : wpZ P md ops Q S z fuel listed a w := by
 subst ha
 exact h
theorem tk {i : Nat} {oi : Oper} {v : Value} {fuel : Nat} {listed : Array Bool} {a a' : Act} {w : World} (hl : ops.toList[i]? = some oi := by rfl)
  (hb : (Region.noSelect ops && Region.free md ops listed i && (Region.ready md ops listed).contains i && !(i == z)) = true := by kernel_rfl)
  (hQ : ∀ c a w,Q (.panic c) (a.put oi.dst v) w -> Q (.panic c) a w := by exact fun _ _ _ h => h) (hy : YieldsIf P ops (fun _ => True) oi v a := by exact Or.inl ⟨by rfl,by intro w' hSw; go_simp <;> with_reducible rfl⟩) (hS : S w := by assumption)
  (h : wpZ P md ops Q S z fuel (listed.setIfInBounds i true) a' w) (ha : a.put oi.dst v = a' := by first | (simp only [Act.put,List.setIfInBounds_toArray,List.set_cons_zero,List.set_cons_succ]; done) | (simp only [Act.put,List.setIfInBounds_toArray,List.set_cons_zero,List.set_cons_succ]; rfl) | rfl) : wpZ P md ops Q S z (fuel + 1) listed a w := by
 simp only [Bool.and_eq_true] at hb
 exact xxA hl hb.1.1.1 hb.1.1.2 hb.1.2 hb.2 hQ hy hS h ha
theorem ld {i : Nat} (p : List Nat) {oi : Oper} {v : Value} {fuel : Nat} {listed : Array Bool} {a a' : Act} {w : World} (hl : ops.toList[i]? = some oi := by rfl)
  (hb : (Region.noSelect ops && Region.free md ops listed i && (Region.ready md ops listed).contains i && yfC md ops i p && (p.all fun g => !listed.getD g true) && (p.contains z && !(i == z))) = true := by kernel_rfl)
  (hQ : ∀ c a w,Q (.panic c) (a.put oi.dst v) w -> Q (.panic c) a w := by exact fun _ _ _ h => h) (hy : YieldsIf P ops S oi v a := by exact Or.inl ⟨by rfl,by intro w' hSw; (try dsimp only at hSw); go_simp <;> with_reducible rfl⟩) (hS : S w := by assumption)
  (h : wpZ P md ops Q S z fuel (listed.setIfInBounds i true) a' w) (ha : a.put oi.dst v = a' := by first | (simp only [Act.put,List.setIfInBounds_toArray,List.set_cons_zero,List.set_cons_succ]; done) | (simp only [Act.put,List.setIfInBounds_toArray,List.set_cons_zero,List.set_cons_succ]; rfl) | rfl) : wpZ P md ops Q S z (fuel + 1) listed a w := by
 rw [Bool.and_eq_true,Bool.and_eq_true,Bool.and_eq_true,Bool.and_eq_true,Bool.and_eq_true] at hb
 exact xyZ p hl hb.1.1.1.1.1 hb.1.1.1.1.2 hb.1.1.1.2 hb.1.1.2 hb.1.2 hb.2 hQ hy hS h ha
theorem xbH {oi : Oper} {fuel : Nat} {listed : Array Bool} {a : Act} {w : World} (hl : ops.toList[z]? = some oi) (hr : Region.ready md ops listed = [z]) (hlt : decide (z < listed.size) = true) (hd : Region.ready md ops (listed.setIfInBounds z true) = []) (hw : Region.wanted oi (yielded ops a.tmps) = true)
  (h : ∀ (K : Act -> World -> Prop) (R : Exit -> Act -> World -> Prop),Shut (∀ a w,Q .normal a w -> K a w) -> Oper.wp P oi a w K R) : wpZ P md ops Q S z (fuel + 1) listed a w := by
 have hi : ops[z]? = some oi := by rw [<- hl,Array.getElem?_toList]
 refine ⟨fun h0 => (by rw [hr] at h0; cases h0),fun j hj => ?_⟩
 rw [hr,List.mem_singleton] at hj
 subst hj
 refine wpOp_step hi (fun K hK => by
  rw [if_pos hw]
  refine h K Q (fun a w hq => hK a w ⟨fun hb => ?_,?_⟩)
  ·rw [Array.getD_eq_getD_getElem?] at hb
   simp [of_decide_eq_true hlt] at hb
  ·cases fuel with
   | zero => exact ⟨hd,hq⟩
   | succ n => exact ⟨fun _ => hq,by rw [hd]; simp⟩)
end
def MX (w : World) (M : Nat) (A : Array Value) : Prop := w.heap[M]? = some (.cells A 30 (0,0))
def CB (w : World) (C : Nat) (v : Value) : Prop := w.heap[C]? = some (.cells #[v] 24 (0,0))
section
variable {w w' : World} {M C P : Nat} {A : Array Value} {v : Value} {S : TypeId -> Bool}
theorem MX.lt (h : MX w M A) : M < w.heap.size := xaU h
theorem MX.cell (h : MX w M A) (i : Nat) : w.cell? ⟨M,i,none⟩ = A[i]? := by
 unfold MX at h
 simp [World.cell?,h]
theorem MX.frozen (h : MX w M A) (i : Nat) : w.frozen? ⟨M,i,none⟩ = false := by
 unfold MX at h
 simp [World.frozen?,h]
theorem MX.set (h : MX w M A) (i : Nat) (v : Value) : MX (w.setCell ⟨M,i,none⟩ v) M (A.setIfInBounds i v) := by
 unfold MX at h ⊢
 simp [World.setCell,Array.getElem?_modify,h]
theorem MX.kp (h : MX w M A) (q : Kp S w w') (hS : S 30 = true) : MX w' M A := by
 unfold MX at h ⊢
 rw [q.blk _ _ _ _ h hS,h]
theorem MX.chg (h : MX w M A) (c : Chg P w w') (hP : M ≠ P) : MX w' M A := by
 unfold MX at h ⊢
 rw [c.block M (xaU h) hP,h]
theorem CB.lt (h : CB w C v) : C < w.heap.size := xaU h
theorem CB.cell (h : CB w C v) : w.cell? ⟨C,0,none⟩ = some v := by
 unfold CB at h
 simp [World.cell?,h]
theorem CB.frozen (h : CB w C v) : w.frozen? ⟨C,0,none⟩ = false := by
 unfold CB at h
 simp [World.frozen?,h]
theorem CB.set (h : CB w C v) (u : Value) : CB (w.setCell ⟨C,0,none⟩ u) C u := by
 unfold CB at h ⊢
 simp [World.setCell,Array.getElem?_modify,h]
theorem CB.kp (h : CB w C v) (q : Kp S w w') (hS : S 24 = true) : CB w' C v := by
 unfold CB at h ⊢
 rw [q.blk _ _ _ _ h hS,h]
theorem CB.chg (h : CB w C v) (c : Chg P w w') (hP : C ≠ P) : CB w' C v := by
 unfold CB at h ⊢
 rw [c.block C (xaU h) hP,h]
theorem Kp.chgA {A : List Nat} (h : ChgA A w w') (S : TypeId -> Bool) (hA : ∀ k ∈ A,∀ cur t f,w.heap[k]? = some (.cells cur t f) -> S t = false) : Kp S w w' :=
 ⟨h.size,fun j cur t f hj hs => h.block j (xaU hj) fun q => by
  rw [hA j q cur t f hj] at hs
  cases hs⟩
end
theorem xdS (A : Array Value) (k : Nat) (u : Value) (h : A[k]? = some u) : A.setIfInBounds k u = A := by
 apply Array.ext_getElem?
 intro i
 rw [Array.getElem?_setIfInBounds]
 split
 ·rename_i e
  subst e
  split
  ·exact h.symm
  ·rename_i hn
   rw [Array.getElem?_eq_none (by omega)] at h
   cases h
 ·rfl
theorem xcU (A : Array Value) (k : Nat) (u v : Value) : (A.setIfInBounds k u).setIfInBounds k v = A.setIfInBounds k v := by
 apply Array.ext_getElem?
 intro i
 simp only [Array.getElem?_setIfInBounds,Array.size_setIfInBounds]
 split <;> rfl
theorem xbV (A : Array Value) (k : Nat) (u v : Value) (h : A[k]? = some u) : (A.setIfInBounds k v)[k]? = some v := by
 rw [Array.getElem?_setIfInBounds,if_pos rfl,if_pos]
 rcases Nat.lt_or_ge k A.size with q | q
 ·exact q
 ·rw [Array.getElem?_eq_none q] at h
  cases h
theorem xbQ (most : Int) (h0 : 0 <= most) (l : List Int) (a : Int) (hb : ∀ b ∈ l,0 <= b /\ b < 256) : 0 <= (xaN most l a).1 /\ (xaN most l a).1 <= most := by
 have := xcB l a hb
 unfold xaN
 dsimp only
 split
 ·rename_i hz
  refine ⟨this.1,?_⟩
  unfold xcP at hz
  by_cases hq : most < (xaK l a).1
  ·rw [decide_eq_true hq,if_pos rfl] at hz
   unfold xbD at hz
   split at hz
   ·cases hz
   ·rename_i hq2; exact absurd hz hq2
  ·omega
 ·omega
theorem Rel.got {α : Type} {p : Rd α} {q : List Int -> Int -> α × List Int × Int} (h : Rel p q) {l : List Int} (hb : Bts l) (h0 : (q l 0).2.2 = 0) : p l = .ok ((q l 0).1,(q l 0).2.1) := by
 cases hp : p l with
 | error e =>
  obtain ⟨e1,e2⟩ := h.err l e hb hp
  exact absurd (e1.symm.trans h0) e2
 | ok z =>
  obtain ⟨x,r⟩ := z
  rw [(h.ok l x r hb hp).1]
theorem ydX (l : List Int) (hb : Bts l) (w : World) (h0 : (xgT l 0).2.2 = 0) : GloD.ok w ⟨(xgT l 0).1.k,(xgT l 0).1.m,(xgT l 0).1.s⟩ := by
 obtain ⟨⟨h1,h2⟩,_⟩ := cod_glo.ok _ _ _ hb (Rel.glo.got hb h0)
 have := xlA h1
 exact ⟨by dsimp only; omega,by dsimp only; omega,xhV h2⟩
theorem ybB {T : ByteArray} {x : NamV} {n : Int} (h : ymQ x) (e : x = ⟨xaX T,n⟩) (w : World) : NamD.ok w ⟨T,n⟩ := by
 subst e
 have h1 := h.1.1
 dsimp only at h1
 rw [xaY] at h1
 exact ⟨by dsimp only; unfold maxLen; omega,xiH h.2⟩
theorem yiE {T : ByteArray} {x : DatV} {n : Int} (h : ymE x) (e : x = ⟨n,xaX T⟩) (w : World) : DatD.ok w ⟨n,T⟩ := by
 subst e
 have h1 := h.2.1
 dsimp only at h1
 rw [xaY] at h1
 exact ⟨xhV h.1,by dsimp only; unfold maxLen; omega⟩
theorem LR.row_lt {D : Type} {w : World} {B : Nat} {t : TypeId} {k : Nat} {cs : D -> List Value} {ok : World -> D -> Prop} {o : Option Addr} {n cap : Nat} {L : List D} (h : LR w B t k cs ok o n cap L) (g : Nat) (e : (Value.slice o n cap).ownBlock = some g) : g < w.heap.size := by
 rcases h.own.2 with ⟨h1,_⟩ | ⟨b,c,cur,h1,_,h3,_⟩
 ·rw [h1] at e
  simp [Value.ownBlock] at e
 ·rw [h1] at e
  simp only [Value.ownBlock,Option.some.injEq] at e
  subst e
  exact xaU h3
theorem X2.far {T : TypeId} {w1 w2 w3 : World} {X : Nat} {c0 c1 : Value} {row : Option Nat} (h : X2 T w1 X c0 c1) (bA : Below w1.heap.size w1 w2) (g : w2.grownBy w3 row) (hne : some X ≠ row) : X2 T w3 X c0 c1 := by
 have hx : X < w1.heap.size := xaU h
 unfold X2 at h ⊢
 rw [g.block X (Nat.lt_of_lt_of_le hx bA.size) hne,bA.block X hx,h]
theorem ChgA.mx {w w' : World} {P M : Nat} {A : Array Value} (h : ChgA [P] w w') (hM : MX w M A) (hMP : M ≠ P) : MX w' M A := by
 unfold MX at hM ⊢
 rw [h.block M (xaU hM) (by simp; exact hMP),hM]
theorem ChgA.kp {w w' : World} {P : Nat} {l : List Int} {n a : Int} (h : ChgA [P] w w') (hP : CL w P l n a) (S : TypeId -> Bool) (hS : S 45 = false) : Kp S w w' :=
 Kp.chgA h S fun k hk cur t f hb => by
  rw [List.mem_singleton] at hk
  subst hk
  obtain ⟨s,_,_,hc⟩ := hP
  unfold CS at hc
  rw [hc] at hb
  simp only [Option.some.injEq,Obj.cells.injEq] at hb
  rw [<- hb.2.1]
  exact hS
theorem ChgA.trans {A A' : List Nat} {w w1 w2 : World} (h : ChgA A w w1) (k : ChgA A' w1 w2) (hA : ∀ x ∈ A',x ∈ A \/ w.heap.size <= x) : ChgA A w w2 :=
 ⟨k.os.trans h.os,k.tape.trans h.tape,k.output.trans h.output,Nat.le_trans h.size k.size,fun j hj ha => by
  rw [k.block j (Nat.lt_of_lt_of_le hj h.size) (fun q => by
   rcases hA j q with r | r
   ·exact ha r
   ·omega)]
  exact h.block j hj ha⟩
theorem ChgA.kp2 {w w' : World} {P X : Nat} {l : List Int} {n a : Int} {T : TypeId} {c0 c1 : Value} (h : ChgA [P,X] w w') (hP : CL w P l n a) (hX : X2 T w X c0 c1) (S : TypeId -> Bool) (hS : S 45 = false) (hT : S T = false) : Kp S w w' :=
 Kp.chgA h S fun k hk cur t f hb => by
  rw [List.mem_cons,List.mem_singleton] at hk
  rcases hk with rfl | rfl
  ·obtain ⟨s,_,_,hc⟩ := hP
   unfold CS at hc
   rw [hc] at hb
   simp only [Option.some.injEq,Obj.cells.injEq] at hb
   rw [<- hb.2.1]
   exact hS
  ·unfold X2 at hX
   rw [hX] at hb
   simp only [Option.some.injEq,Obj.cells.injEq] at hb
   rw [<- hb.2.1]
   exact hT
theorem X2.kp {T : TypeId} {w w' : World} {X : Nat} {c0 c1 : Value} {S : TypeId -> Bool} (h : X2 T w X c0 c1) (q : Kp S w w') (hS : S T = true) : X2 T w' X c0 c1 := by
 unfold X2 at h ⊢
 rw [q.blk _ _ _ _ h hS,h]
theorem xgB {α : Type} {q : List Int -> Int -> α × List Int × Int} {m j : Nat} {l lj : List Int} {a aj : Int} {LI : List α} (h : xbW q m l a = (LI ++ (xbW q (m - j) lj aj).1,(xbW q (m - j) lj aj).2)) (hjl : j < m) : xbW q m l a = (LI ++ [(q lj aj).1] ++ (xbW q (m - (j + 1)) (q lj aj).2.1 (q lj aj).2.2).1,(xbW q (m - (j + 1)) (q lj aj).2.1 (q lj aj).2.2).2) := by
 rw [h,show m - j = m - (j + 1) + 1 by omega,xbW,List.append_assoc]
 rfl
theorem xgA {α : Type} {q : List Int -> Int -> α × List Int × Int} {m j : Nat} {l lj : List Int} {a aj : Int} {LI : List α} (h : xbW q m l a = (LI ++ (xbW q (m - j) lj aj).1,(xbW q (m - j) lj aj).2)) (hjl : ¬ j < m) : xbW q m l a = (LI,lj,aj) := by
 rw [h,show m - j = 0 by omega,xbW,List.append_nil]
theorem xoT (most : Int) (l : List Int) (a : Int) (h : (xaN most l a).1 ≠ 0) : (xaN most l a).2.2 = 0 := by
 unfold xaN at h ⊢
 dsimp only at h ⊢
 split at h
 ·assumption
 ·exact absurd rfl h
section
variable {P : Program} {ops : Array Oper} {Q : Exit -> Act -> World -> Prop} {md : Region.Mode} {S : World -> Prop} {z : Nat}
theorem xnQ {f : Nat} {args : Array Value} {C : Ending -> World -> Prop} {oi : Oper} {fuel : Nat} {listed : Array Bool} {a : Act} {w : World} (hl : ops.toList[z]? = some oi) (hr : Region.ready md ops listed = [z]) (hlt : decide (z < listed.size) = true) (hd : Region.ready md ops (listed.setIfInBounds z true) = []) (hw : Region.wanted oi (yielded ops a.tmps) = true)
  (he : (execOp a.eval oi).run P w = .ok (.enter f args) w) (hc : Calls P f args w C) (h : ∀ r w',C r w' -> ∃ v,r = .returned v /\ Q .normal (a.put oi.dst v) w') : wpZ P md ops Q S z (fuel + 1) listed a w := by
 refine xbH hl hr hlt hd hw (fun K R hK => ?_)
 unfold Oper.wp
 rw [he,Oper.upon_enter]
 refine hc.mono (fun r w' hC => ?_)
 obtain ⟨v,rfl,hQ⟩ := h r w' hC
 exact hK.out _ _ hQ
end
abbrev yhE : Obj := .cells #[.int .i64 0,.int .i64 16,.int .i64 16,.int .i64 16,.int .i64 1,.int .i64 1,.int .i64 8,.int .i64 8,.int .i64 0,.int .i64 4,.int .i64 16,.int .i64 4] 91 (0,0)
theorem xgG (w : World) (k : Nat) (x : Int) (hx : (#[Value.int .i64 0,.int .i64 16,.int .i64 16,.int .i64 16,.int .i64 1,.int .i64 1,.int .i64 8,.int .i64 8,.int .i64 0,.int .i64 4,.int .i64 16,.int .i64 4] : Array Value)[k]? = some (.int .i64 x)) : (w.alloc yhE).cell? ⟨w.heap.size,k,none⟩ = some (.int .i64 x) := by
 have := xaZ w yhE
 simp only [World.cell?,this]
 exact hx
structure SecR {α D : Type} (q : List Int -> Int -> α × List Int × Int) (val : D -> α) (w : World) (B : Nat) (t : TypeId) (sz : Nat) (cs : D -> List Value) (ok : World -> D -> Prop) (m : Nat) (l1 : List Int) (a1 : Int) (i : Nat) (o : Option Addr) (cap : Nat) (L : List D) (li : List Int) (ai : Int) : Prop where
 rest : (xbS q m l1 a1).2 = (xbS q (m - i) li ai).2
 list : ai = 0 -> (xbS q m l1 a1).1 = L.map val ++ (xbS q (m - i) li ai).1 /\ LR w B t sz cs ok o i cap L
section
variable {α D : Type} {q : List Int -> Int -> α × List Int × Int} {val : D -> α} {w w' : World} {B : Nat} {t : TypeId} {sz : Nat} {cs : D -> List Value} {ok : World -> D -> Prop} {m : Nat} {l1 : List Int} {a1 : Int} {i : Nat} {o : Option Addr} {cap : Nat} {L : List D} {li : List Int} {ai : Int}
theorem SecR.start (w : World) (B : Nat) (t : TypeId) (sz : Nat) (cs : D -> List Value) (ok : World -> D -> Prop) (m : Nat) (l1 : List Int) (a1 : Int) : SecR q val w B t sz cs ok m l1 a1 0 none 0 [] l1 a1 := ⟨rfl,fun _ => ⟨by simp,LR.nil _ _ _ _ _ _⟩⟩
theorem SecR.more (h : SecR q val w B t sz cs ok m l1 a1 i o cap L li 0) (hlt : i < m) {o' : Option Addr} {cap' : Nat} {d : D} (hd : (q li 0).2.2 = 0 -> val d = (q li 0).1 /\ LR w' B t sz cs ok o' (i + 1) cap' (L ++ [d])) : SecR q val w' B t sz cs ok m l1 a1 (i + 1) o' cap' (L ++ [d]) (q li 0).2.1 (q li 0).2.2 := by
 have e : xbS q (m - i) li 0 = ((q li 0).1 :: (xbS q (m - (i + 1)) (q li 0).2.1 (q li 0).2.2).1,(xbS q (m - (i + 1)) (q li 0).2.1 (q li 0).2.2).2) := by
  rw [show m - i = m - (i + 1) + 1 by omega,xbS,if_pos rfl]
 refine ⟨by rw [h.rest,e],fun h0 => ?_⟩
 obtain ⟨h1,h2⟩ := hd h0
 refine ⟨?_,h2⟩
 rw [(h.list rfl).1,e,List.map_append,List.map_singleton,h1,List.append_assoc]
 rfl
theorem SecR.done (h : SecR q val w B t sz cs ok m l1 a1 i o cap L li ai) (hd : ¬ i < m \/ ai ≠ 0) : (xbS q m l1 a1).2 = (li,ai) /\ (ai = 0 -> L.map val = (xbS q m l1 a1).1 /\ LR w B t sz cs ok o i cap L) := by
 have e : xbS q (m - i) li ai = ([],li,ai) := by
  rcases hd with h1 | h1
  ·rw [show m - i = 0 by omega]; rfl
  ·exact xhZ q _ _ _ h1
 refine ⟨by rw [h.rest,e],fun h0 => ?_⟩
 obtain ⟨h1,h2⟩ := h.list h0
 rw [e,List.append_nil] at h1
 exact ⟨h1.symm,h2⟩
end
end Go.Proofs.YtmmjgdaamkdncaaGreatDoor
