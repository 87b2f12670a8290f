import Derived.Test.YtmmjgdaamkdncaaGreatDoorAGSq
import Derived.Test.YtmmjgdaamkdncaaGreatDoorAGChk
namespace Go.Proofs.YtmmjgdaamkdncaaGreatDoor
set_option maxHeartbeats 40000000
set_option maxRecDepth 1000000
set_option linter.unusedVariables false
open Go.RowKit
structure QS (w wr : World) (P gE gS n cE cS : Nat) (o : Option Addr) (cap : Nat) (E S : List Int) : Prop where
 ends : wr.ownsRow w.heap.size 3 1 (.slice (some ⟨gE,0,none⟩) n cE) n (E.map (Value.int .i64))
 elses : wr.ownsRow w.heap.size 3 1 (.slice (some ⟨gS,0,none⟩) n cS) n (S.map (Value.int .i64))
 es : gE ≠ gS
 blk : wr.heap[P]? = some (.cells #[.slice o n cap,.slice (some ⟨gE,0,none⟩) n cE,.slice (some ⟨gS,0,none⟩) n cS] 160 (0,0))
 farE : P ≠ gE
 farS : P ≠ gS
 below : Below w.heap.size w wr
section
variable {w wr w' : World} {P gE gS n cE cS : Nat} {o : Option Addr} {cap : Nat} {E S : List Int}
theorem QS.under (h : QS w wr P gE gS n cE cS o cap E S) (b : Below wr.heap.size wr w') : QS w w' P gE gS n cE cS o cap E S :=
 ⟨xdI h.ends b,xdI h.elses b,h.es,by rw [b.block P (Array.getElem?_eq_some_iff.1 h.blk).1]; exact h.blk,h.farE,h.farS,h.below.trans (b.mono h.below.size)⟩
theorem QS.drew (h : QS w wr P gE gS n cE cS o cap E S) : QS w wr.drew P gE gS n cE cS o cap E S := ⟨h.ends,h.elses,h.es,h.blk,h.farE,h.farS,h.below.drew⟩
theorem QS.lenE (h : QS w wr P gE gS n cE cS o cap E S) : E.length = n := by have := h.ends.1; simpa using this
theorem QS.lenS (h : QS w wr P gE gS n cE cS o cap E S) : S.length = n := by have := h.elses.1; simpa using this
theorem QS.setE (h : QS w wr P gE gS n cE cS o cap E S) (j : Nat) (v : Int) : QS w (wr.setCell ⟨gE,j,none⟩ (.int .i64 v)) P gE gS n cE cS o cap (E.set j v) S := by
 refine ⟨?_,?_,h.es,?_,h.farE,h.farS,h.below.setCell (h.ends.lt gE rfl).1 _⟩
 ·rw [List.map_set]
  exact (h.ends.stored j _).1
 ·exact ownsRow_setCell_other h.elses (by simp [Value.ownBlock]; exact h.es.symm) _
 ·have := h.farE.symm
  simp [World.setCell,Array.getElem?_modify,h.blk,this]
theorem QS.setS (h : QS w wr P gE gS n cE cS o cap E S) (j : Nat) (v : Int) : QS w (wr.setCell ⟨gS,j,none⟩ (.int .i64 v)) P gE gS n cE cS o cap E (S.set j v) := by
 refine ⟨?_,?_,h.es,?_,h.farE,h.farS,h.below.setCell (h.elses.lt gS rfl).1 _⟩
 ·exact ownsRow_setCell_other h.ends (by simp [Value.ownBlock]; exact h.es) _
 ·rw [List.map_set]
  exact (h.elses.stored j _).1
 ·have := h.farS.symm
  simp [World.setCell,Array.getElem?_modify,h.blk,this]
theorem QS.cellE (h : QS w wr P gE gS n cE cS o cap E S) (j : Nat) (hj : j < n) : wr.cell? ⟨gE,j,none⟩ = some (.int .i64 (E.getD j 0)) /\ wr.frozen? ⟨gE,j,none⟩ = false := by
 refine ⟨?_,h.ends.frozenAt j⟩
 rw [h.ends.cellAt j (by omega),List.getElem?_map,List.getElem?_eq_getElem (by rw [h.lenE]; exact hj),List.getD_eq_getElem?_getD,List.getElem?_eq_getElem (by rw [h.lenE]; exact hj)]
 rfl
theorem QS.cellS (h : QS w wr P gE gS n cE cS o cap E S) (j : Nat) (hj : j < n) : wr.cell? ⟨gS,j,none⟩ = some (.int .i64 (S.getD j 0)) /\ wr.frozen? ⟨gS,j,none⟩ = false := by
 refine ⟨?_,h.elses.frozenAt j⟩
 rw [h.elses.cellAt j (by omega),List.getElem?_map,List.getElem?_eq_getElem (by rw [h.lenS]; exact hj),List.getD_eq_getElem?_getD,List.getElem?_eq_getElem (by rw [h.lenS]; exact hj)]
 rfl
theorem QS.cells (h : QS w wr P gE gS n cE cS o cap E S) : wr.cell? ⟨P,0,none⟩ = some (.slice o n cap) /\ wr.cell? ⟨P,1,none⟩ = some (.slice (some ⟨gE,0,none⟩) n cE) /\ wr.cell? ⟨P,2,none⟩ = some (.slice (some ⟨gS,0,none⟩) n cS) := by
 refine ⟨?_,?_,?_⟩ <;> simp [World.cell?,h.blk]
end
structure KP (gE gS : Nat) (a b : World) : Prop where
 size : a.heap.size <= b.heap.size
 block : ∀ g,g < a.heap.size -> g ≠ gE -> g ≠ gS -> b.heap[g]? = a.heap[g]?
theorem KP.refl (gE gS : Nat) (a : World) : KP gE gS a a := ⟨Nat.le_refl _,fun _ _ _ _ => rfl⟩
theorem KP.trans {gE gS : Nat} {a b c : World} (h : KP gE gS a b) (k : KP gE gS b c) : KP gE gS a c := ⟨Nat.le_trans h.size k.size,fun g h1 h2 h3 => (k.block g (Nat.lt_of_lt_of_le h1 h.size) h2 h3).trans (h.block g h1 h2 h3)⟩
theorem KP.of {gE gS : Nat} {a b : World} (h : Below a.heap.size a b) : KP gE gS a b := ⟨h.size,fun g h1 _ _ => h.block g h1⟩
theorem KP.drew {gE gS : Nat} {a b : World} (h : KP gE gS a b) : KP gE gS a b.drew := ⟨h.size,h.block⟩
theorem KP.setE {gE gS : Nat} {a b : World} (h : KP gE gS a b) (j : Nat) (v : Value) : KP gE gS a (b.setCell ⟨gE,j,none⟩ v) := by
 refine ⟨by rw [World.size_setCell]; exact h.size,fun g h1 h2 h3 => ?_⟩
 rw [<- h.block g h1 h2 h3]
 simp [World.setCell,Array.getElem?_modify,h2.symm]
theorem KP.setS {gE gS : Nat} {a b : World} (h : KP gE gS a b) (j : Nat) (v : Value) : KP gE gS a (b.setCell ⟨gS,j,none⟩ v) := by
 refine ⟨by rw [World.size_setCell]; exact h.size,fun g h1 h2 h3 => ?_⟩
 rw [<- h.block g h1 h2 h3]
 simp [World.setCell,Array.getElem?_modify,h3.symm]
theorem xrV (b f cap n P gE gS cE cS : Nat) (L : List InsD) (w : World) (hl : L.length = n) (hn : n <= 200) (_hcap : n <= cap) (h : LD w (some ⟨b,f,none⟩) L) (hbw : b < w.heap.size)
  (HCK : Hid (∀ d ∈ L,∀ w',Below w.heap.size w w' -> Calls Tryz.prog 121 #[.agg #[.int .u8 d.op,.int .i64 d.A,.int .i64 d.B,.slice d.o d.n d.cap]] w' fun r w'' => r = .returned (.int .i64 (xeK d)) /\ Below w'.heap.size w' w''))
  (i dp : Nat) (E S : List Int) (wi : World) (hi : i <= n) (hd : dp <= 12) (HQ0 : Hid (QS w wi P gE gS n cE cS (some ⟨b,f,none⟩) cap E S))
  (HS : Hid (∀ (i' dp' : Nat) (x y : Int) (E S : List Int) (wi : World),x = (i' : Int) -> y = (dp' : Int) -> i < i' -> i' <= n -> dp' <= 12 -> QS w wi P gE gS n cE cS (some ⟨b,f,none⟩) cap E S -> Calls Tryz.prog 120 #[.pointer (some ⟨P,0,none⟩),.int .i64 x,.int .i64 y] wi fun r w' => ∃ (e : Int) (j : Nat) (E' S' : List Int),Sq L i' dp' E S e j E' S' /\ r = .returned (.tuple #[.int .i64 j,.int .i64 e]) /\ QS w w' P gE gS n cE cS (some ⟨b,f,none⟩) cap E' S' /\ KP gE gS wi w')) :
  Calls Tryz.prog 120 #[.pointer (some ⟨P,0,none⟩),.int .i64 i,.int .i64 dp] wi fun r w' => ∃ (e : Int) (j : Nat) (E' S' : List Int),Sq L i dp E S e j E' S' /\ r = .returned (.tuple #[.int .i64 j,.int .i64 e]) /\ QS w w' P gE gS n cE cS (some ⟨b,f,none⟩) cap E' S' /\ KP gE gS wi w' := by
 have HLn : Hid (L.length = n) := hl
 have HLD : Hid (LD w (some ⟨b,f,none⟩) L) := h
 clear hl h
 have hni : (n : Int) <= 200 := by omega
 have hdi : (dp : Int) <= 12 := by omega
 have HK0 : Hid (∀ (e : Int) (j : Nat) (E' S' : List Int),Sq L i dp E S e j E' S' -> Sq L i dp E S e j E' S') := fun _ _ _ _ h => h
 have HP0 : Hid (KP gE gS wi wi) := KP.refl _ _ _
 go_enter Tryz.func120,Tryz.ntmps120
 go_wp2
 go_loopw [1] (fun v wr => ∃ k : Nat,∃ E1 S1 : List Int,v = .int .i64 k /\ i <= k /\ k <= n /\ Hid (QS w wr P gE gS n cE cS (some ⟨b,f,none⟩) cap E1 S1) /\ Hid (KP gE gS wi wr) /\ Hid (∀ (e : Int) (j : Nat) (E' S' : List Int),Sq L k dp E1 S1 e j E' S' -> Sq L i dp E S e j E' S')) (fun v _ => n - (intOf v).toNat)
 case atStart => exact ⟨i,E,S,rfl,Nat.le_refl _,hi,HQ0,HP0,HK0⟩
 case round =>
  obtain ⟨k,E1,S1,rfl,hik,hk,HQ,HP,HK⟩ := hrel
  clear HQ0 HP0 HK0
  obtain ⟨p0,p1,p2⟩ := HQ.out.cells
  by_cases hlt : k < n
  ·have hkl : k < L.length := by rw [HLn.out]; exact hlt
   have hmem : L[k] ∈ L := List.getElem_mem hkl
   have hcs : ∀ j,j < n -> w.cell? ⟨b,f + j * 4,none⟩ = some (.int .u8 (xdC L j)) := by
    intro j hj
    obtain ⟨b',f',e,h⟩ := HLD.out.cellOp j (by rw [HLn.out]; exact hj)
    simp only [Option.some.injEq,Addr.mk.injEq] at e
    obtain ⟨rfl,rfl,_⟩ := e
    exact h
   have HCS := kZz hcs
   have hcell : ∀ (hkl : k < L.length),w.cell? ⟨b,f + k * 4,none⟩ = some (.int .u8 (L[k]).op) /\ w.cell? ⟨b,f + k * 4 + 1,none⟩ = some (.int .i64 (L[k]).A) /\ w.cell? ⟨b,f + k * 4 + 2,none⟩ = some (.int .i64 (L[k]).B) /\ w.cell? ⟨b,f + k * 4 + 3,none⟩ = some (.slice (L[k]).o (L[k]).n (L[k]).cap) := by
    intro hkl
    rcases HLD.out.2 with h0 | ⟨b',f',e,_,hc⟩
    ·exfalso; rw [h0] at hkl; simp at hkl
    ·simp only [Option.some.injEq,Addr.mk.injEq] at e
     obtain ⟨rfl,rfl,_⟩ := e
     exact hc k hkl
   obtain ⟨m0,m1,m2,m3⟩ := hcell hkl
   have HCd := HCK.out _ hmem
   have hok := HLD.out.1 _ hmem
   have hop0 := hok.op0
   have hop1 := hok.op1
   have hopk := xhK L k hkl
   have hckk := xkD L k hkl
   have e0 := HQ.out.below.cell (p := ⟨b,f + k * 4,none⟩) hbw
   have e1 := HQ.out.below.cell (p := ⟨b,f + k * 4 + 1,none⟩) hbw
   have e2 := HQ.out.below.cell (p := ⟨b,f + k * 4 + 2,none⟩) hbw
   have e3 := HQ.out.below.cell (p := ⟨b,f + k * 4 + 3,none⟩) hbw
   rw [m0] at e0
   rw [m1] at e1
   rw [m2] at e2
   rw [m3] at e3
   generalize L[k] = d at e0 e1 e2 e3 HCd hopk hckk hop0 hop1
   clear hcs hcell m0 m1 m2 m3 hmem hok
   have HCd2 := kZz HCd
   clear HCd
   have hki0 : (0 : Int) <= (k : Int) := by omega
   have hki1 : (k : Int) < (n : Int) := by omega
   obtain ⟨opd,hopd⟩ : ∃ x,d.op = x := ⟨_,rfl⟩
   obtain ⟨c,hcd⟩ : ∃ x,xeK d = x := ⟨_,rfl⟩
   rw [hopd] at e0 hopk HCd2 hop0 hop1
   rw [hcd] at hckk HCd2
   have hQa := HQ.out.under ((Below.refl wr.heap.size wr).alloc (Nat.le_refl _) (.cells #[.int .u8 opd,.int .i64 d.A,.int .i64 d.B,.slice d.o d.n d.cap] 100))
   have hPa := HP.out.trans (KP.of (gE := gE) (gS := gS) ((Below.refl wr.heap.size wr).alloc (Nat.le_refl _) (.cells #[.int .u8 opd,.int .i64 d.A,.int .i64 d.B,.slice d.o d.n d.cap] 100)))
   have gEl : gE < wr.heap.size := (HQ.out.ends.lt gE rfl).2
   have gSl : gS < wr.heap.size := (HQ.out.elses.lt gS rfl).2
   have HQa := kZz hQa
   have HPa := kZz hPa
   clear hQa hPa HQ HP hopd hcd
   go_wp2_with fail
   refine (HCd2.out _ HQa.out.below).mono ?_
   rintro r w1 ⟨rfl,b1⟩
   have hx : w1.heap[wr.heap.size]? = some (.cells #[.int .u8 opd,.int .i64 d.A,.int .i64 d.B,.slice d.o d.n d.cap] 100 (0,0)) := by
    rw [b1.block _ (by rw [World.size_alloc]; omega)]
    exact xaZ _ _
   have hxl : wr.heap.size < w1.heap.size := (Array.getElem?_eq_some_iff.1 hx).1
   have hxc : w1.cell? ⟨wr.heap.size,0,none⟩ = some (.int .u8 opd) := by simp [World.cell?,hx]
   have HQ1 : Hid (QS w w1 P gE gS n cE cS (some ⟨b,f,none⟩) cap E1 S1) := HQa.out.under b1
   have HP1 : Hid (KP gE gS wi w1) := HPa.out.trans (KP.of b1)
   have HX := kZz hx
   clear b1 HQa HPa HCd2 hx e0 e1 e2 e3 p0 p1 p2
   by_cases hc0 : c = 0
   ·subst hc0
    by_cases h5 : opd = 5
    ·subst h5
     go_wp2
     go_ret2
     exact ⟨0,k,E1,S1,HK.out _ _ _ _ (Sq.stop k dp E1 S1 hkl hckk (Or.inl hopk)),rfl,HQ1.out,HP1.out⟩
    by_cases h11 : opd = 11
    ·subst h11
     go_wp2
     go_ret2
     exact ⟨0,k,E1,S1,HK.out _ _ _ _ (Sq.stop k dp E1 S1 hkl hckk (Or.inr hopk)),rfl,HQ1.out,HP1.out⟩
    have b5 : (opd == 5) = false := by rw [beq_eq_false_iff_ne]; exact h5
    have b11 : (opd == 11) = false := by rw [beq_eq_false_iff_ne]; exact h11
    by_cases hlo : opd < 2
    ·have HK2 : Hid (∀ (e : Int) (j : Nat) (E' S' : List Int),Sq L (k + 1) dp E1 S1 e j E' S' -> Sq L i dp E S e j E' S') := fun e j E' S' hs => HK.out _ _ _ _ (Sq.skip k dp E1 S1 e j E' S' hkl hckk (by rw [hopk]; exact h5) (by rw [hopk]; exact h11) (by rw [hopk]; unfold isO; omega) hs)
     go_wp2
     go_roundw
     case rel => exact ⟨k + 1,E1,S1,by go_num,by omega,by omega,HQ1,HP1,HK2⟩
     case measure => simp [intOf]; omega
    by_cases hhi : 4 < opd
    ·have HK2 : Hid (∀ (e : Int) (j : Nat) (E' S' : List Int),Sq L (k + 1) dp E1 S1 e j E' S' -> Sq L i dp E S e j E' S') := fun e j E' S' hs => HK.out _ _ _ _ (Sq.skip k dp E1 S1 e j E' S' hkl hckk (by rw [hopk]; exact h5) (by rw [hopk]; exact h11) (by rw [hopk]; unfold isO; omega) hs)
     have hlo2 : 2 <= opd := by omega
     go_wp2
     go_roundw
     case rel => exact ⟨k + 1,E1,S1,by go_num,by omega,by omega,HQ1,HP1,HK2⟩
     case measure => simp [intOf]; omega
    have hO : isO opd := by unfold isO; omega
    by_cases hd12 : dp = 12
    ·subst hd12
     rcases hO with rfl | rfl | rfl
     all_goals
      go_wp2
      go_ret2
      exact ⟨7,0,E1,S1,HK.out _ _ _ _ (Sq.deep k 12 E1 S1 hkl hckk (by rw [hopk]; unfold isO; omega) rfl),rfl,HQ1.out,HP1.out⟩
    have hdi2 : (dp : Int) < 12 := by omega
    have hdne : ((dp : Int) == 12) = false := by rw [beq_eq_false_iff_ne]; omega
    have hOk : isO (xdC L k) := by rw [hopk]; exact hO
    have HHX : Hid (∀ w2,KP gE gS w1 w2 -> w2.cell? ⟨wr.heap.size,0,none⟩ = some (.int .u8 opd)) := fun w2 kp => by
     have : w2.heap[wr.heap.size]? = some (.cells #[.int .u8 opd,.int .i64 d.A,.int .i64 d.B,.slice d.o d.n d.cap] 100 (0,0)) := by
      rw [kp.block _ hxl (by omega) (by omega)]
      exact HX.out
     simp [World.cell?,this]
    have HCal := HS.out (k + 1) (dp + 1) ((k : Int) + 1) ((dp : Int) + 1) E1 S1 w1 (by omega) (by omega) (by omega) (by omega) (by omega) HQ1.out
    have HCa := kZz HCal
    clear HCal HX
    have hlo2 : 2 <= opd := by omega
    have hhi2 : opd <= 4 := by omega
    have glt : ¬ opd < 2 := hlo
    go_wp2_with fail
    refine HCa.out.mono ?_
    rintro r w2 ⟨e,j,E2,S2,hsq,rfl,q2,k2⟩
    have HQ2 : Hid (QS w w2 P gE gS n cE cS (some ⟨b,f,none⟩) cap E2 S2) := q2
    have HP2 : Hid (KP gE gS wi w2) := HP1.out.trans k2
    have hx2 := HHX.out w2 k2
    have HK12 : Hid (KP gE gS w1 w2) := k2
    clear q2 k2 HCa HQ1 HP1 hxc
    by_cases he : e = 0
    ·subst he
     obtain ⟨aj,hj,cj,oj⟩ := hsq.ok rfl
     have hjn : j < n := by rw [<- HLn.out]; exact hj
     have hji0 : (0 : Int) <= (j : Int) := by omega
     have hji1 : (j : Int) < (n : Int) := by omega
     have lj := HQ2.out.below.cell (p := ⟨b,f + j * 4,none⟩) hbw
     rw [HCS.out j hjn] at lj
     obtain ⟨p0,p1,p2⟩ := HQ2.out.cells
     rcases oj with oj | oj
     ·rw [oj] at lj
      by_cases h4 : opd = 4
      ·subst h4
       have HCal := HS.out (j + 1) (dp + 1) ((j : Int) + 1) ((dp : Int) + 1) E2 S2 w2 (by omega) (by omega) (by omega) (by omega) (by omega) HQ2.out
       have HCa := kZz HCal
       clear HCal HS
       go_wp2_with fail
       refine HCa.out.mono ?_
       rintro r w3 ⟨e,j2,E3,S3,hsq2,rfl,q3,k3⟩
       have HQ3 : Hid (QS w w3 P gE gS n cE cS (some ⟨b,f,none⟩) cap E3 S3) := q3
       have HP3 : Hid (KP gE gS wi w3) := HP2.out.trans k3
       clear q3 k3 HCa HQ2 HP2 p0 p1 p2 lj hx2 HHX HK12
       by_cases he : e = 0
       ·subst he
        obtain ⟨aj2,hj2,cj2,oj2⟩ := hsq2.ok rfl
        have hjn2 : j2 < n := by rw [<- HLn.out]; exact hj2
        have hji20 : (0 : Int) <= (j2 : Int) := by omega
        have hji21 : (j2 : Int) < (n : Int) := by omega
        have lj := HQ3.out.below.cell (p := ⟨b,f + j2 * 4,none⟩) hbw
        rw [HCS.out j2 hjn2] at lj
        obtain ⟨p0,p1,p2⟩ := HQ3.out.cells
        rcases oj2 with oj2 | oj2
        ·rw [oj2] at lj
         go_wp2
         go_ret2
         exact ⟨4,0,E3,S3,HK.out _ _ _ _ (Sq.form2 k dp E1 S1 j E2 S2 j2 E3 S3 hkl hckk hopk hd12 hsq oj hsq2 oj2),rfl,HQ3.out,HP3.out⟩
        ·rw [oj2] at lj
         have HK2 : Hid (∀ (e : Int) (j' : Nat) (E' S' : List Int),Sq L (j2 + 1) dp (((E3.set k (j2 : Int)).set j2 (k : Int)).set j (j2 : Int)) ((S3.set k (j : Int)).set j (k : Int)) e j' E' S' -> Sq L i dp E S e j' E' S') := fun e j' E' S' hs => HK.out _ _ _ _ (Sq.turn k dp E1 S1 j E2 S2 j2 E3 S3 e j' E' S' hkl hckk hopk hd12 hsq oj hsq2 (by rw [oj2]; decide) hs)
         have q4 := HQ3.out.setE k j2
         have q5 := (q4.setE j2 k).drew
         obtain ⟨c1,z1⟩ := HQ3.out.cellE k hlt
         obtain ⟨c2,z2⟩ := q4.cellE j2 hjn2
         obtain ⟨c3,z3⟩ := HQ3.out.cellE j2 hjn2
         have HQ5 := kZz q5
         have HP5 := kZz (((HP3.out.setE k (.int .i64 (j2 : Int))).setE j2 (.int .i64 (k : Int))).drew)
         clear q4 q5 HQ3 HP3
         go_wp2
         go_region
         all_goals
          generalize hw5 : World.drew _ = w5 at HQ5 HP5 ⊢
          clear c1 c2 c3 z1 z2 z3 p0 p1 p2 lj hw5
          obtain ⟨p0,p1,p2⟩ := HQ5.out.cells
          have q6 := HQ5.out.setS k j
          have q7 := q6.setS j k
          have q8 := (q7.setE j j2).drew
          obtain ⟨c1,z1⟩ := HQ5.out.cellS k hlt
          obtain ⟨c2,z2⟩ := q6.cellS j hjn
          obtain ⟨c3,z3⟩ := q7.cellE j hjn
          obtain ⟨c4,z4⟩ := HQ5.out.cellS j hjn
          obtain ⟨c5,z5⟩ := HQ5.out.cellE j hjn
          have HQ8 := kZz q8
          have HP8 := kZz ((((HP5.out.setS k (.int .i64 (j : Int))).setS j (.int .i64 (k : Int))).setE j (.int .i64 (j2 : Int))).drew)
          clear q6 q7 q8 HQ5 HP5
          go_wp2
          go_region
          all_goals
           go_wp2
           go_roundw
           case rel => exact ⟨j2 + 1,_,_,by go_num,by omega,by omega,HQ8,HP8,HK2⟩
           case measure => simp [intOf]; omega
       ·have hb0 : (e == 0) = false := by rw [beq_eq_false_iff_ne]; exact he
        have hn0 : (e != 0) = true := by rw [bne,hb0]; rfl
        go_wp2
        go_ret2
        exact ⟨e,0,E3,S3,HK.out _ _ _ _ (Sq.fail2 k dp E1 S1 j E2 S2 e j2 E3 S3 hkl hckk hopk hd12 hsq oj hsq2 he),rfl,HQ3.out,HP3.out⟩
      ·have b4 : (opd == 4) = false := by rw [beq_eq_false_iff_ne]; exact h4
       go_wp2
       go_ret2
       exact ⟨4,0,E2,S2,HK.out _ _ _ _ (Sq.form1 k dp E1 S1 j E2 S2 hkl hckk hOk hd12 hsq oj (by rw [hopk]; exact h4)),rfl,HQ2.out,HP2.out⟩
     ·rw [oj] at lj
      have HK2 : Hid (∀ (e : Int) (j' : Nat) (E' S' : List Int),Sq L (j + 1) dp ((E2.set k (j : Int)).set j (k : Int)) S2 e j' E' S' -> Sq L i dp E S e j' E' S') := fun e j' E' S' hs => HK.out _ _ _ _ (Sq.block k dp E1 S1 j E2 S2 e j' E' S' hkl hckk hOk hd12 hsq (by rw [oj]; decide) hs)
      have q4 := HQ2.out.setE k j
      have q5 := (q4.setE j k).drew
      obtain ⟨c1,z1⟩ := HQ2.out.cellE k hlt
      obtain ⟨c2,z2⟩ := q4.cellE j hjn
      obtain ⟨c3,z3⟩ := HQ2.out.cellE j hjn
      have HQ5 := kZz q5
      have HP5 := kZz (((HP2.out.setE k (.int .i64 (j : Int))).setE j (.int .i64 (k : Int))).drew)
      clear q4 q5 HQ2 HP2 HK12 HHX HS
      go_wp2
      go_region
      all_goals
       go_wp2
       go_roundw
       case rel => exact ⟨j + 1,_,_,by go_num,by omega,by omega,HQ5,HP5,HK2⟩
       case measure => simp [intOf]; omega
    ·have hb0 : (e == 0) = false := by rw [beq_eq_false_iff_ne]; exact he
     have hn0 : (e != 0) = true := by rw [bne,hb0]; rfl
     go_wp2
     go_ret2
     exact ⟨e,0,E2,S2,HK.out _ _ _ _ (Sq.fail1 k dp E1 S1 e j E2 S2 hkl hckk hOk hd12 he hsq),rfl,HQ2.out,HP2.out⟩
   ·have hb0 : (c == 0) = false := by rw [beq_eq_false_iff_ne]; exact hc0
    have hn0 : (c != 0) = true := by rw [bne,hb0]; rfl
    go_wp2
    go_ret2
    refine ⟨c,0,E1,S1,HK.out _ _ _ _ ?_,rfl,HQ1.out,HP1.out⟩
    have := Sq.bad (L := L) k dp E1 S1 hkl (by rw [hckk]; exact hc0)
    rw [hckk] at this
    exact this
  ·have hkn : (k : Int) = (n : Int) := by omega
   go_wp2
   go_ret2
   exact ⟨3,0,E1,S1,HK.out _ _ _ _ (Sq.short k dp E1 S1 (by rw [HLn.out]; omega)),rfl,HQ.out,HP.out⟩
theorem ycN (b f cap n P gE gS cE cS : Nat) (L : List InsD) (w : World) (hl : L.length = n) (hn : n <= 200) (hcap : n <= cap) (h : LD w (some ⟨b,f,none⟩) L) (hbw : b < w.heap.size) (hM : MaxIn w) :
  ∀ (m i dp : Nat) (x y : Int) (E S : List Int) (wi : World),n - i <= m -> x = (i : Int) -> y = (dp : Int) -> i <= n -> dp <= 12 -> QS w wi P gE gS n cE cS (some ⟨b,f,none⟩) cap E S ->
   Calls Tryz.prog 120 #[.pointer (some ⟨P,0,none⟩),.int .i64 x,.int .i64 y] wi fun r w' => ∃ (e : Int) (j : Nat) (E' S' : List Int),Sq L i dp E S e j E' S' /\ r = .returned (.tuple #[.int .i64 j,.int .i64 e]) /\ QS w w' P gE gS n cE cS (some ⟨b,f,none⟩) cap E' S' /\ KP gE gS wi w' := by
 have hck : ∀ d ∈ L,∀ w',Below w.heap.size w w' -> Calls Tryz.prog 121 #[.agg #[.int .u8 d.op,.int .i64 d.A,.int .i64 d.B,.slice d.o d.n d.cap]] w' fun r w'' => r = .returned (.int .i64 (xeK d)) /\ Below w'.heap.size w' w'' := fun d hd w' b => by
  have ok := (h.1 d hd).below b
  exact xlH d.op d.A d.B d.o d.n d.cap d.xs ok.op0 ok.op1 ok.cap w' ok.lj (hM.below b)
 intro m
 induction m with
 | zero =>
  intro i dp x y E S wi hm hx hy hi hd hq
  subst hx hy
  exact xrV b f cap n P gE gS cE cS L w hl hn hcap h hbw hck i dp E S wi hi hd hq (fun i' dp' x y E S wi hx hy h1 h2 => by omega)
 | succ m ih =>
  intro i dp x y E S wi hm hx hy hi hd hq
  subst hx hy
  exact xrV b f cap n P gE gS cE cS L w hl hn hcap h hbw hck i dp E S wi hi hd hq (fun i' dp' x y E S wi hx hy h1 h2 h3 h4 => ih i' dp' x y E S wi (by omega) hx hy h2 h3 h4)
structure AS (w wr : World) (P n k : Nat) (oE : Option Addr) (cE : Nat) (oS : Option Addr) (cS : Nat) (o : Option Addr) (cap : Nat) : Prop where
 ends : wr.ownsRow w.heap.size 3 1 (.slice oE k cE) k ((List.replicate k (-1 : Int)).map (Value.int .i64))
 elses : wr.ownsRow w.heap.size 3 1 (.slice oS k cS) k ((List.replicate k (-1 : Int)).map (Value.int .i64))
 es : ∀ g h,oE = some g -> oS = some h -> g.block ≠ h.block
 blk : wr.heap[P]? = some (.cells #[.slice o n cap,.slice oE k cE,.slice oS k cS] 160 (0,0))
 farE : ∀ g,oE = some g -> g.block ≠ P
 farS : ∀ g,oS = some g -> g.block ≠ P
 pos : w.heap.size <= P
 below : Below w.heap.size w wr
section
variable {w wr w' : World} {P n k cE cS cap : Nat} {oE oS o : Option Addr}
theorem AS.lt (h : AS w wr P n k oE cE oS cS o cap) : P < wr.heap.size := (Array.getElem?_eq_some_iff.1 h.blk).1
theorem AS.under (h : AS w wr P n k oE cE oS cS o cap) (b : Below wr.heap.size wr w') : AS w w' P n k oE cE oS cS o cap :=
 ⟨xdI h.ends b,xdI h.elses b,h.es,by rw [b.block P h.lt]; exact h.blk,h.farE,h.farS,h.pos,h.below.trans (b.mono h.below.size)⟩
theorem AS.drew (h : AS w wr P n k oE cE oS cS o cap) : AS w wr.drew P n k oE cE oS cS o cap := ⟨h.ends,h.elses,h.es,h.blk,h.farE,h.farS,h.pos,h.below.drew⟩
theorem AS.cells (h : AS w wr P n k oE cE oS cS o cap) : wr.cell? ⟨P,0,none⟩ = some (.slice o n cap) /\ wr.cell? ⟨P,1,none⟩ = some (.slice oE k cE) /\ wr.cell? ⟨P,2,none⟩ = some (.slice oS k cS) /\ wr.frozen? ⟨P,1,none⟩ = false /\ wr.frozen? ⟨P,2,none⟩ = false := by
 refine ⟨?_,?_,?_,?_,?_⟩ <;> simp [World.cell?,World.frozen?,h.blk]
end
structure AM (w wr : World) (P n k k2 : Nat) (oE : Option Addr) (cE : Nat) (g c : Nat) (oS : Option Addr) (cS : Nat) (o2 : Option Addr) (c2 : Nat) (o : Option Addr) (cap : Nat) : Prop where
 ends : wr.ownsRow w.heap.size 3 1 (.slice (some ⟨g,0,none⟩) (k + 1) c) (k + 1) ((List.replicate (k + 1) (-1 : Int)).map (Value.int .i64))
 elses : wr.ownsRow w.heap.size 3 1 (.slice o2 k2 c2) k2 ((List.replicate k2 (-1 : Int)).map (Value.int .i64))
 es : ∀ h,o2 = some h -> h.block ≠ g
 blk : wr.heap[P]? = some (.cells #[.slice o n cap,.slice oE k cE,.slice oS k cS] 160 (0,0))
 farE : g ≠ P
 farS : ∀ g,o2 = some g -> g.block ≠ P
 pos : w.heap.size <= P
 below : Below w.heap.size w wr
section
variable {w wr wa w' w5 : World} {P n k k2 cE cS c2 cap : Nat} {oE oS o2 o : Option Addr} {g c : Nat}
theorem AM.lt (h : AM w wr P n k k2 oE cE g c oS cS o2 c2 o cap) : P < wr.heap.size := (Array.getElem?_eq_some_iff.1 h.blk).1
theorem AM.under (h : AM w wr P n k k2 oE cE g c oS cS o2 c2 o cap) (b : Below wr.heap.size wr w') : AM w w' P n k k2 oE cE g c oS cS o2 c2 o cap :=
 ⟨xdI h.ends b,xdI h.elses b,h.es,by rw [b.block P h.lt]; exact h.blk,h.farE,h.farS,h.pos,h.below.trans (b.mono h.below.size)⟩
theorem AM.cells (h : AM w wr P n k k2 oE cE g c oS cS o2 c2 o cap) : wr.cell? ⟨P,0,none⟩ = some (.slice o n cap) /\ wr.cell? ⟨P,1,none⟩ = some (.slice oE k cE) /\ wr.cell? ⟨P,2,none⟩ = some (.slice oS k cS) /\ wr.frozen? ⟨P,1,none⟩ = false /\ wr.frozen? ⟨P,2,none⟩ = false := by
 refine ⟨?_,?_,?_,?_,?_⟩ <;> simp [World.cell?,World.frozen?,h.blk]
theorem xvK (k : Nat) : (List.replicate k (-1 : Int)).map (Value.int .i64) ++ [.int .i64 (-1)] = (List.replicate (k + 1) (-1 : Int)).map (Value.int .i64) := by
 rw [List.replicate_succ',List.map_append]
 rfl
theorem AS.app (h : AS w wa P n k oE cE oS cS o cap) (hg : wa.grownBy w5 (Value.slice oE k cE).ownBlock) (hown : w5.ownsRow w.heap.size 3 1 (.slice (some ⟨g,0,none⟩) (k + 1) c) (k + 1) ((List.replicate k (-1 : Int)).map (Value.int .i64) ++ [.int .i64 (-1)])) (hat : (Value.slice oE k cE).ownBlock = some g \/ g = wa.heap.size) : AM w w5 P n k k oE cE g c oS cS oS cS o cap := by
 have fP := xhE (k := k) (c := cE) h.farE
 have lP := h.lt
 have fS : ∀ s,oS = some s -> (Value.slice oE k cE).ownBlock ≠ some s.block := fun s hs => xhE (k := k) (c := cE) fun g' hg' => h.es g' s hg' hs
 have lS : ∀ s,oS = some s -> s.block < wa.heap.size := fun s hs => (h.elses.lt s.block (by rw [hs]; simp [Value.ownBlock])).2
 rw [xvK] at hown
 refine ⟨hown,h.elses.kept hg ?_,fun s hs => ?_,by rw [hg.block P lP (Ne.symm fP)]; exact h.blk,?_,h.farS,h.pos,h.below.grown hg h.below.size fun j hj => (h.ends.lt j hj).1⟩
 ·cases oS with
  | none => left; simp [Value.ownBlock]
  | some s => right; simp [Value.ownBlock]; exact fun e => fS s rfl e.symm
 ·rcases hat with e | e
  ·intro e2
   exact fS s hs (by rw [e,e2])
  ·have := lS s hs
   omega
 ·rcases hat with e | e
  ·intro e2
   exact fP (by rw [e,e2])
  ·omega
theorem AM.app {g2 cg : Nat} (h : AM w wa P n k k oE cE g c oS cS oS cS o cap) (hg : wa.grownBy w5 (Value.slice oS k cS).ownBlock) (hown : w5.ownsRow w.heap.size 3 1 (.slice (some ⟨g2,0,none⟩) (k + 1) cg) (k + 1) ((List.replicate k (-1 : Int)).map (Value.int .i64) ++ [.int .i64 (-1)])) (hat : (Value.slice oS k cS).ownBlock = some g2 \/ g2 = wa.heap.size) : AM w w5 P n k (k + 1) oE cE g c oS cS (some ⟨g2,0,none⟩) cg o cap := by
 have fP := xhE (k := k) (c := cS) h.farS
 have lP := h.lt
 have fE := xhE (k := k) (c := cS) h.es
 have lE := (h.ends.lt g rfl).2
 rw [xvK] at hown
 refine ⟨h.ends.kept hg (Or.inr (by simp [Value.ownBlock]; exact fun e => fE e.symm)),hown,fun s hs => ?_,by rw [hg.block P lP (Ne.symm fP)]; exact h.blk,h.farE,fun s hs => ?_,h.pos,h.below.grown hg h.below.size fun j hj => (h.elses.lt j hj).1⟩
 ·cases hs
  rcases hat with e | e
  ·intro e2
   exact fE (by rw [e]; exact congrArg some e2)
  ·simp only
   omega
 ·cases hs
  rcases hat with e | e
  ·intro e2
   exact fP (by rw [e]; exact congrArg some e2)
  ·simp only
   omega
theorem AM.done {g2 cg : Nat} (h : AM w wa P n k (k + 1) oE cE g c oS cS (some ⟨g2,0,none⟩) cg o cap) : AS w ((wa.setCell ⟨P,1,none⟩ (.slice (some ⟨g,0,none⟩) (k + 1) c)).setCell ⟨P,2,none⟩ (.slice (some ⟨g2,0,none⟩) (k + 1) cg)) P n (k + 1) (some ⟨g,0,none⟩) c (some ⟨g2,0,none⟩) cg o cap := by
 have f2 := h.farS _ rfl
 simp only at f2
 refine ⟨ownsRow_setCell_other (ownsRow_setCell_other h.ends (by simp [Value.ownBlock]; exact h.farE) _) (by simp [Value.ownBlock]; exact h.farE) _,ownsRow_setCell_other (ownsRow_setCell_other h.elses (by simp [Value.ownBlock]; exact f2) _) (by simp [Value.ownBlock]; exact f2) _,?_,?_,?_,h.farS,h.pos,(h.below.setCell h.pos _).setCell h.pos _⟩
 ·intro a b ha hb
  cases ha
  exact (h.es b hb).symm
 ·simp [World.setCell,Array.getElem?_modify,h.blk]
 ·intro a ha
  cases ha
  exact h.farE
end
theorem xrY {w : World} {j : Nat} {x : Obj} (h : w.heap[j]? = some x) : j < w.heap.size := (Array.getElem?_eq_some_iff.1 h).1
theorem ybQ (b f cap n P : Nat) (L : List InsD) (w wi : World) (hn : n <= 200) (hn0 : 0 < n) (_hcap : n <= cap) (hbw : b < w.heap.size) (HL : Hid (L.length = n)) (HA0 : Hid (AS w wi P n 0 none 0 none 0 (some ⟨b,f,none⟩) cap))
  (HC : Hid (∀ i (h : i < L.length),w.cell? ⟨b,f + i * 4,none⟩ = some (.int .u8 (L[i]).op) /\ w.cell? ⟨b,f + i * 4 + 1,none⟩ = some (.int .i64 (L[i]).A) /\ w.cell? ⟨b,f + i * 4 + 2,none⟩ = some (.int .i64 (L[i]).B) /\ w.cell? ⟨b,f + i * 4 + 3,none⟩ = some (.slice (L[i]).o (L[i]).n (L[i]).cap)))
  (HCK : Hid (∀ d ∈ L,∀ w',Below w.heap.size w w' -> Calls Tryz.prog 121 #[.agg #[.int .u8 d.op,.int .i64 d.A,.int .i64 d.B,.slice d.o d.n d.cap]] w' fun r w'' => r = .returned (.int .i64 (xeK d)) /\ Below w'.heap.size w' w''))
  (HSQ : Hid (∀ (gE gS cE cS : Nat) (wi : World),QS w wi P gE gS n cE cS (some ⟨b,f,none⟩) cap (List.replicate n (-1)) (List.replicate n (-1)) -> Calls Tryz.prog 120 #[.pointer (some ⟨P,0,none⟩),.int .i64 0,.int .i64 0] wi fun r w' => ∃ (e : Int) (j : Nat) (E' S' : List Int),Sq L 0 0 (List.replicate n (-1)) (List.replicate n (-1)) e j E' S' /\ r = .returned (.tuple #[.int .i64 j,.int .i64 e]) /\ QS w w' P gE gS n cE cS (some ⟨b,f,none⟩) cap E' S' /\ KP gE gS wi w')) :
  Calls Tryz.prog 109 #[.pointer (some ⟨P,0,none⟩)] wi fun r w' => r = .returned (.int .i64 (vd (xeH L [] false))) /\ Below w.heap.size w w' /\ (vd (xeH L [] false) = 0 -> ∃ gE gS cE cS,QS w w' P gE gS n cE cS (some ⟨b,f,none⟩) cap (xfE L).2.1 (xfE L).2.2) := by
 obtain ⟨i0,hi,hz0,hz1,hz2⟩ := info_parts Tryz.infoInt
 have hni : (n : Int) <= 200 := by omega
 obtain ⟨p0,p1,p2,p3,p4⟩ := HA0.out.cells
 go_enter Tryz.func109,Tryz.ntmps109
 go_wp2
 clear p0 p1 p2 p3 p4
 go_loopw [11] (fun v wr => ∃ k cE cS : Nat,∃ oE oS : Option Addr,v = .int .i64 k /\ k <= n /\ Hid (AS w wr P n k oE cE oS cS (some ⟨b,f,none⟩) cap)) (fun v _ => n - (intOf v).toNat)
 case atStart => exact ⟨0,0,0,none,none,rfl,by omega,HA0⟩
 case round =>
  obtain ⟨k,cE,cS,oE,oS,rfl,hk,HA⟩ := hrel
  obtain ⟨p0,p1,p2,p3,p4⟩ := HA.out.cells
  have hPl := HA.out.lt
  by_cases hlt : k < n
  ·have hki0 : (0 : Int) <= (k : Int) := by omega
   have hki1 : (k : Int) < (n : Int) := by omega
   obtain ⟨hcE,hcEm⟩ := xkP HA.out.ends
   obtain ⟨hcS,hcSm⟩ := xkP HA.out.elses
   obtain ⟨W1,hW1⟩ : ∃ W,(wr.alloc (.cells #[.int .i64 (-1)] 3)).drew = W := ⟨_,rfl⟩
   obtain ⟨W2,hW2⟩ : ∃ W,((wr.alloc (.cells #[.int .i64 (-1)] 3)).alloc (.cells #[.int .i64 (-1)] 3)).drew = W := ⟨_,rfl⟩
   have hA1 : AS w (wr.alloc (.cells #[.int .i64 (-1)] 3)) P n k oE cE oS cS (some ⟨b,f,none⟩) cap := HA.out.under ((Below.refl _ _).alloc (Nat.le_refl _) _)
   have HA1 : Hid (AS w W1 P n k oE cE oS cS (some ⟨b,f,none⟩) cap) := hW1 ▸ hA1.drew
   have HA2 : Hid (AS w W2 P n k oE cE oS cS (some ⟨b,f,none⟩) cap) := hW2 ▸ (hA1.under ((Below.refl _ _).alloc (Nat.le_refl _) _)).drew
   have HNB1 : Hid (W1.heap[wr.heap.size]? = some (.cells #[.int .i64 (-1)] 3 (0,0))) := hW1 ▸ heap_alloc_new wr _
   have HNB2a : Hid (W2.heap[wr.heap.size]? = some (.cells #[.int .i64 (-1)] 3 (0,0))) := by
    rw [<- hW2]
    exact (Below.heap_alloc _ _ _ (by simp)).trans (heap_alloc_new wr _)
   have HNB2b : Hid (W2.heap[wr.heap.size + 1]? = some (.cells #[.int .i64 (-1)] 3 (0,0))) := by
    rw [<- hW2]
    have := heap_alloc_new (wr.alloc (.cells #[.int .i64 (-1)] 3)) (.cells #[.int .i64 (-1)] 3)
    rw [World.size_alloc] at this
    exact this
   have HFE : Hid (∀ j,wr.heap.size <= j -> some j ≠ (Value.slice oE k cE).ownBlock) := fun j hj e => by
    have := (HA.out.ends.lt j e.symm).2
    omega
   have HF2a : Hid (∀ w5 row,W2.grownBy w5 row -> some wr.heap.size ≠ row -> w5.heap[wr.heap.size]? = some (.cells #[.int .i64 (-1)] 3 (0,0))) := fun w5 row hg hne => by
    rw [hg.block _ (xrY HNB2a.out) hne]
    exact HNB2a.out
   have HF2b : Hid (∀ w5 row,W2.grownBy w5 row -> some (wr.heap.size + 1) ≠ row -> w5.heap[wr.heap.size + 1]? = some (.cells #[.int .i64 (-1)] 3 (0,0))) := fun w5 row hg hne => by
    rw [hg.block _ (xrY HNB2b.out) hne]
    exact HNB2b.out
   have HW1 := kZz hW1
   have HW2 := kZz hW2
   clear HA HA0 hA1 hW1 hW2
   go_wp2
   go_region_law (first
    | (have hno := HWa5.out; rw [HWa5.out]; refine step_append_lies _ (by rfl) _ _ _ (by rfl) w.heap.size 3 i0 _ 1 8 Tryz.underlying60 hi hz0 hz1 hz2 rfl (by omega) (.slice oS k cS) k ((List.replicate k (-1 : Int)).map (Value.int .i64)) (by rfl) HMb.out.elses ⟨w5.heap.size,0,none⟩ 1 1 [.int .i64 (-1)] (by rfl) (by rfl) (World.news_of_block (cs := #[.int .i64 (-1)]) (t := 3) (fr := (0,0)) HNb.out) (by simp [Value.oneCell']) (by omega) (by unfold maxLen; omega) (by omega) HMb.out.below.size _ rfl ?_; intro g7 c7 w7 hown7 hgrow7 hat7 hlt7; have HM7 : Hid (AM w w7 P n k (k + 1) oE cE g5 c5 oS cS (some ⟨g7,0,none⟩) c7 (some ⟨b,f,none⟩) cap) := HMb.out.app hgrow7 hown7 hat7; obtain ⟨s0,s1,s2,s3,s4⟩ := HM7.out.cells; have hP7 := HM7.out.lt; clear hgrow7 hown7 hat7 HM5 r0 r1 r2 r3 r4)
    | (have hno := HNBb5.out; refine step_append_lies _ (by rfl) _ _ _ (by rfl) w.heap.size 3 i0 _ 1 8 Tryz.underlying60 hi hz0 hz1 hz2 rfl (by omega) (.slice oS k cS) k ((List.replicate k (-1 : Int)).map (Value.int .i64)) (by rfl) HM5.out.elses ⟨wr.heap.size + 1,0,none⟩ 1 1 [.int .i64 (-1)] (by rfl) (by rfl) (World.news_of_block (cs := #[.int .i64 (-1)]) (t := 3) (fr := (0,0)) HNBb5.out) (by simp [Value.oneCell']) (by omega) (by unfold maxLen; omega) (by omega) HM5.out.below.size _ rfl ?_; intro g7 c7 w7 hown7 hgrow7 hat7 hlt7; have HM7 : Hid (AM w w7 P n k (k + 1) oE cE g5 c5 oS cS (some ⟨g7,0,none⟩) c7 (some ⟨b,f,none⟩) cap) := HM5.out.app hgrow7 hown7 hat7; obtain ⟨s0,s1,s2,s3,s4⟩ := HM7.out.cells; have hP7 := HM7.out.lt; clear hgrow7 hown7 hat7 HM5 r0 r1 r2 r3 r4)
    | (have hno := HNBc5.out; refine step_append_lies _ (by rfl) _ _ _ (by rfl) w.heap.size 3 i0 _ 1 8 Tryz.underlying60 hi hz0 hz1 hz2 rfl (by omega) (.slice oS k cS) k ((List.replicate k (-1 : Int)).map (Value.int .i64)) (by rfl) HM5.out.elses ⟨wr.heap.size,0,none⟩ 1 1 [.int .i64 (-1)] (by rfl) (by rfl) (World.news_of_block (cs := #[.int .i64 (-1)]) (t := 3) (fr := (0,0)) HNBc5.out) (by simp [Value.oneCell']) (by omega) (by unfold maxLen; omega) (by omega) HM5.out.below.size _ rfl ?_; intro g7 c7 w7 hown7 hgrow7 hat7 hlt7; have HM7 : Hid (AM w w7 P n k (k + 1) oE cE g5 c5 oS cS (some ⟨g7,0,none⟩) c7 (some ⟨b,f,none⟩) cap) := HM5.out.app hgrow7 hown7 hat7; obtain ⟨s0,s1,s2,s3,s4⟩ := HM7.out.cells; have hP7 := HM7.out.lt; clear hgrow7 hown7 hat7 HM5 r0 r1 r2 r3 r4)
    | ((fail_if_success (have hno := HM5.out)); rw [HW1.out]; refine step_append_lies _ (by rfl) _ _ _ (by rfl) w.heap.size 3 i0 _ 1 8 Tryz.underlying60 hi hz0 hz1 hz2 rfl (by omega) (.slice oE k cE) k ((List.replicate k (-1 : Int)).map (Value.int .i64)) (by rfl) HA1.out.ends ⟨wr.heap.size,0,none⟩ 1 1 [.int .i64 (-1)] (by rfl) (by rfl) (World.news_of_block (cs := #[.int .i64 (-1)]) (t := 3) (fr := (0,0)) HNB1.out) (by simp [Value.oneCell']) (by omega) (by unfold maxLen; omega) (by omega) HA1.out.below.size _ rfl ?_; intro g5 c5 w5 hown5 hgrow5 hat5 hlt5; have HM5 : Hid (AM w w5 P n k k oE cE g5 c5 oS cS oS cS (some ⟨b,f,none⟩) cap) := HA1.out.app hgrow5 hown5 hat5; obtain ⟨r0,r1,r2,r3,r4⟩ := HM5.out.cells; have hP5 := HM5.out.lt; obtain ⟨W5,hW5⟩ : ∃ W,w5.alloc (.cells #[.int .i64 (-1)] 3) = W := ⟨_,rfl⟩; have HWa5 : Hid (type_of% hW5) := hW5; have HMb : Hid (AM w W5 P n k k oE cE g5 c5 oS cS oS cS (some ⟨b,f,none⟩) cap) := hW5 ▸ (HM5.out.under ((Below.refl _ _).alloc (Nat.le_refl _) _)); have HNb : Hid (W5.heap[w5.heap.size]? = some (.cells #[.int .i64 (-1)] 3 (0,0))) := hW5 ▸ (heap_alloc_new w5 _); clear hgrow5 hown5 hat5 hW5)
    | ((fail_if_success (have hno := HM5.out)); rw [HW2.out]; refine step_append_lies _ (by rfl) _ _ _ (by rfl) w.heap.size 3 i0 _ 1 8 Tryz.underlying60 hi hz0 hz1 hz2 rfl (by omega) (.slice oE k cE) k ((List.replicate k (-1 : Int)).map (Value.int .i64)) (by rfl) HA2.out.ends ⟨wr.heap.size,0,none⟩ 1 1 [.int .i64 (-1)] (by rfl) (by rfl) (World.news_of_block (cs := #[.int .i64 (-1)]) (t := 3) (fr := (0,0)) HNB2a.out) (by simp [Value.oneCell']) (by omega) (by unfold maxLen; omega) (by omega) HA2.out.below.size _ rfl ?_; intro g5 c5 w5 hown5 hgrow5 hat5 hlt5; have HM5 : Hid (AM w w5 P n k k oE cE g5 c5 oS cS oS cS (some ⟨b,f,none⟩) cap) := HA2.out.app hgrow5 hown5 hat5; obtain ⟨r0,r1,r2,r3,r4⟩ := HM5.out.cells; have hP5 := HM5.out.lt; have HNBb5 : Hid (w5.heap[wr.heap.size + 1]? = some (.cells #[.int .i64 (-1)] 3 (0,0))) := HF2b.out w5 _ hgrow5 (HFE.out _ (by omega)); clear hgrow5 hown5 hat5)
    | ((fail_if_success (have hno := HM5.out)); rw [HW2.out]; refine step_append_lies _ (by rfl) _ _ _ (by rfl) w.heap.size 3 i0 _ 1 8 Tryz.underlying60 hi hz0 hz1 hz2 rfl (by omega) (.slice oE k cE) k ((List.replicate k (-1 : Int)).map (Value.int .i64)) (by rfl) HA2.out.ends ⟨wr.heap.size + 1,0,none⟩ 1 1 [.int .i64 (-1)] (by rfl) (by rfl) (World.news_of_block (cs := #[.int .i64 (-1)]) (t := 3) (fr := (0,0)) HNB2b.out) (by simp [Value.oneCell']) (by omega) (by unfold maxLen; omega) (by omega) HA2.out.below.size _ rfl ?_; intro g5 c5 w5 hown5 hgrow5 hat5 hlt5; have HM5 : Hid (AM w w5 P n k k oE cE g5 c5 oS cS oS cS (some ⟨b,f,none⟩) cap) := HA2.out.app hgrow5 hown5 hat5; obtain ⟨r0,r1,r2,r3,r4⟩ := HM5.out.cells; have hP5 := HM5.out.lt; have HNBc5 : Hid (w5.heap[wr.heap.size]? = some (.cells #[.int .i64 (-1)] 3 (0,0))) := HF2a.out w5 _ hgrow5 (HFE.out _ (by omega)); clear hgrow5 hown5 hat5))
   all_goals
    go_wp2
    go_roundw
    case rel => exact ⟨k + 1,c5,c7,_,_,by go_num,by omega,HM7.out.done⟩
    case measure => simp [intOf]; omega
  ·have hkn : n = k := by omega
   have hEf := HA.out.ends.form (by omega)
   have hSf := HA.out.elses.form (by omega)
   obtain ⟨gE,_,hvE,_,_⟩ := hEf
   obtain ⟨gS,_,hvS,_,_⟩ := hSf
   simp only [Value.slice.injEq] at hvE hvS
   obtain ⟨rfl,_,rfl⟩ := hvE
   obtain ⟨rfl,_,rfl⟩ := hvS
   subst hkn
   have HQ0 : Hid (QS w wr P gE gS n cE cS (some ⟨b,f,none⟩) cap (List.replicate n (-1)) (List.replicate n (-1))) := ⟨HA.out.ends,HA.out.elses,HA.out.es _ _ rfl rfl,HA.out.blk,(HA.out.farE _ rfl).symm,(HA.out.farS _ rfl).symm,HA.out.below⟩
   have HSQ1 := HSQ.out gE gS cE cS wr HQ0.out
   have HSQ2 := kZz HSQ1
   clear HSQ1 HA HA0 hlt HSQ
   go_wp2_with fail
   refine HSQ2.out.mono ?_
   rintro r w1 ⟨e,j,E',S',hsq,rfl,hq,_⟩
   have HQ1 := kZz hq
   have HB1 : Hid (Below w.heap.size w w1) := hq.below
   have HS1 := kZz hsq
   obtain ⟨q0,q1,q2⟩ := hq.cells
   by_cases he : e = 0
   ·subst he
    obtain ⟨_,hj,_,_⟩ := hsq.ok rfl
    rw [HL.out] at hj
    have hj0 : (0 : Int) <= (j : Int) := by omega
    have hj1 : (j : Int) < (n : Int) := by omega
    have hjl : j < L.length := by rw [HL.out]; exact hj
    obtain ⟨m0,_,_,_⟩ := HC.out j hjl
    have e0 := HB1.out.cell (p := ⟨b,f + j * 4,none⟩) hbw
    rw [m0] at e0
    have hop : xdC L j = (L[j]).op := xhK L j hjl
    have HO := kZz hop
    clear hq hsq m0
    by_cases o5 : xdC L j = 5
    ·rw [<- hop,o5] at e0
     clear hop HO
     go_wp2
     go_ret
     exact ⟨by rw [xsK HS1.out o5]; rfl,HB1.out,fun h => absurd h (by rw [xsK HS1.out o5]; decide)⟩
    ·have o5' : (L[j]).op ≠ 5 := by rw [<- hop]; exact o5
     have ob : ((L[j]).op == 5) = false := by rw [beq_eq_false_iff_ne]; exact o5'
     generalize (L[j]).op = x at e0 ob HO
     clear hop o5'
     by_cases hlast : j + 1 = n
     ·have hl1 : ((j : Int) == (n : Int) - 1) = true := by rw [beq_iff_eq]; omega
      have hok := ykZ (L := L) (by rw [HL.out]; exact HS1.out) o5 (by rw [HL.out]; exact hlast)
      have HOK := kZz hok
      clear hok
      go_wp2
      go_ret
      refine ⟨by rw [HOK.out.1]; rfl,HB1.out,fun _ => ⟨gE,gS,cE,cS,?_⟩⟩
      rw [HOK.out.2]
      exact HQ1.out
     ·have hl1 : ((j : Int) == (n : Int) - 1) = false := by rw [beq_eq_false_iff_ne]; omega
      have hj2 : j + 1 < n := by omega
      have hk0 : (0 : Int) <= (j : Int) + 1 := by omega
      have hk1 : (j : Int) + 1 < (n : Int) := by omega
      have hjl2 : j + 1 < L.length := by rw [HL.out]; exact hj2
      obtain ⟨m0,m1,m2,m3⟩ := HC.out (j + 1) hjl2
      have a0 := HB1.out.cell (p := ⟨b,f + (j + 1) * 4,none⟩) hbw
      have a1 := HB1.out.cell (p := ⟨b,f + (j + 1) * 4 + 1,none⟩) hbw
      have a2 := HB1.out.cell (p := ⟨b,f + (j + 1) * 4 + 2,none⟩) hbw
      have a3 := HB1.out.cell (p := ⟨b,f + (j + 1) * 4 + 3,none⟩) hbw
      rw [m0] at a0
      rw [m1] at a1
      rw [m2] at a2
      rw [m3] at a3
      have hmore := ybR HS1.out o5 hjl2
      rw [xkD L (j + 1) hjl2] at hmore
      have HMO := kZz hmore
      have HCd := HCK.out (L[j + 1]) (List.getElem_mem hjl2)
      have HCe := kZz HCd
      clear m0 m1 m2 m3 hmore HCd HC
      generalize L[j + 1] = d at a0 a1 a2 a3 HMO HCe
      go_wp2_with fail
      refine (HCe.out _ HB1.out).mono ?_
      rintro r w2 ⟨rfl,b2⟩
      have HB2 : Hid (Below w.heap.size w w2) := HB1.out.trans (b2.mono HB1.out.size)
      by_cases hc : xeK d = 0
      ·rw [hc]
       have hv : vd (xeH L [] false) = 4 := by rw [HMO.out,if_pos hc]
       have HV := kZz hv
       clear hv
       go_wp2
       go_ret
       exact ⟨by rw [HV.out]; rfl,HB2.out,fun h => absurd h (by rw [HV.out]; decide)⟩
      ·have hv : vd (xeH L [] false) = xeK d := by rw [HMO.out,if_neg hc]
       have HV := kZz hv
       generalize xeK d = y at hc HV
       have hb0 : (y == 0) = false := by rw [beq_eq_false_iff_ne]; exact hc
       have hn0 : (y != 0) = true := by rw [bne,hb0]; rfl
       clear hv
       go_wp2
       go_ret
       exact ⟨by rw [HV.out]; rfl,HB2.out,fun h => absurd h (by rw [HV.out]; exact hc)⟩
   ·have hv := yfI hsq he
    have HV := kZz hv
    have hb0 : (e == 0) = false := by rw [beq_eq_false_iff_ne]; exact he
    have hn0 : (e != 0) = true := by rw [bne,hb0]; rfl
    clear hv hq hsq
    go_wp2
    go_ret
    exact ⟨by rw [HV.out]; rfl,HB1.out,fun h => absurd h (by rw [HV.out]; exact he)⟩
theorem xkN {w : World} {P : Nat} {c0 c1 c2 : Value} {t : TypeId} (h : w.heap[P]? = some (.cells #[c0,c1,c2] t (0,0))) : w.cell? ⟨P,0,none⟩ = some c0 /\ w.cell? ⟨P,1,none⟩ = some c1 /\ w.cell? ⟨P,2,none⟩ = some c2 := by
 simp [World.cell?,h]
theorem ycO (P cap : Nat) (o : Option Addr) (wi : World) (h : wi.heap[P]? = some (.cells #[.slice o 0 cap,.slice none 0 0,.slice none 0 0] 160 (0,0))) :
  Calls Tryz.prog 120 #[.pointer (some ⟨P,0,none⟩),.int .i64 0,.int .i64 0] wi fun r w' => r = .returned (.tuple #[.int .i64 0,.int .i64 3]) /\ w' = wi := by
 obtain ⟨c0,c1,c2⟩ := xkN h
 clear h
 go_enter Tryz.func120,Tryz.ntmps120
 go_wp2
 go_loopw [1] (fun v wr => v = .int .i64 0 /\ wr = wi) (fun _ _ => 0)
 case atStart => exact ⟨rfl,rfl⟩
 case round =>
  obtain ⟨rfl,rfl⟩ := hrel
  go_wp2
  go_ret2
  exact ⟨rfl,rfl⟩
theorem xxE (P cap : Nat) (o : Option Addr) (wi : World) (h : wi.heap[P]? = some (.cells #[.slice o 0 cap,.slice none 0 0,.slice none 0 0] 160 (0,0))) :
  Calls Tryz.prog 109 #[.pointer (some ⟨P,0,none⟩)] wi fun r w' => r = .returned (.int .i64 3) /\ w' = wi := by
 obtain ⟨c0,c1,c2⟩ := xkN h
 have HS := kZz (ycO P cap o wi h)
 clear h
 go_enter Tryz.func109,Tryz.ntmps109
 go_wp2
 go_loopw [11] (fun v wr => v = .int .i64 0 /\ wr = wi) (fun _ _ => 0)
 case atStart => exact ⟨rfl,rfl⟩
 case round =>
  obtain ⟨rfl,rfl⟩ := hrel
  go_wp2_with fail
  refine HS.out.mono ?_
  rintro r w1 ⟨rfl,rfl⟩
  go_wp2
  go_ret
  exact ⟨rfl,rfl⟩
theorem yfH (o : Option Addr) (cap P : Nat) (L : List InsD) (w wi : World) (hn : L.length <= 200) (hcap : L.length <= cap) (h : LD w o L) (hM : MaxIn w) (hA : AS w wi P L.length 0 none 0 none 0 o cap) :
  Calls Tryz.prog 109 #[.pointer (some ⟨P,0,none⟩)] wi fun r w' => r = .returned (.int .i64 (vd (xeH L [] false))) /\ Below w.heap.size w w' /\ (vd (xeH L [] false) = 0 -> ∃ gE gS cE cS,QS w w' P gE gS L.length cE cS o cap (xfE L).2.1 (xfE L).2.2) := by
 rcases h.2 with h0 | ⟨b,f,rfl,hbw,hc⟩
 ·subst h0
  refine (xxE P cap o wi hA.blk).mono ?_
  rintro r w1 ⟨rfl,rfl⟩
  exact ⟨rfl,hA.below,fun h => absurd h (by decide)⟩
 ·rcases Nat.eq_zero_or_pos L.length with h0 | h0
  ·have h1 : L = [] := List.length_eq_zero_iff.1 h0
   subst h1
   refine (xxE P cap _ wi hA.blk).mono ?_
   rintro r w1 ⟨rfl,rfl⟩
   exact ⟨rfl,hA.below,fun h => absurd h (by decide)⟩
  ·refine ybQ b f cap L.length P L w wi hn h0 hcap hbw rfl hA hc (fun d hd w' b => ?_) (fun gE gS cE cS wi hq => ?_)
   ·have ok := (h.1 d hd).below b
    exact xlH d.op d.A d.B d.o d.n d.cap d.xs ok.op0 ok.op1 ok.cap w' ok.lj (hM.below b)
   ·exact ycN b f cap L.length P gE gS cE cS L w rfl hn hcap h hbw hM L.length 0 0 0 0 _ _ wi (by omega) rfl rfl (by omega) (by omega) hq
theorem xwL (L : List InsD) (h : L.length <= 200) : xuQ L = vd (xeH L [] false) := by
 unfold xuQ vd
 rw [if_neg (by omega)]
theorem xnI (o : Option Addr) (n cap : Nat) (_hn : 200 < n) (w : World) :
  Calls Tryz.prog 101 #[.slice o n cap] w fun r w' => r = .returned (.tuple #[.slice none 0 0,.slice none 0 0,.int .i64 2]) /\ w' = w := by
 go_enter Tryz.func101,Tryz.ntmps101
 go_wp2
 go_ret3
 exact ⟨rfl,rfl⟩
theorem xtS (o : Option Addr) (n cap : Nat) (_hn : n <= 200) (e : Int) (_he : (e == 0) = false) (w : World) (HA : Hid (Calls Tryz.prog 109 #[.pointer (some ⟨w.heap.size,0,none⟩)] (w.alloc (.cells #[.slice o n cap,.slice none 0 0,.slice none 0 0] 160)) fun r w' => r = .returned (.int .i64 e) /\ Below w.heap.size w w')) :
  Calls Tryz.prog 101 #[.slice o n cap] w fun r w' => r = .returned (.tuple #[.slice none 0 0,.slice none 0 0,.int .i64 e]) /\ Below w.heap.size w w' := by
 have hne : (e != 0) = true := by rw [bne,_he]; rfl
 go_enter Tryz.func101,Tryz.ntmps101
 go_wp2_with fail
 refine HA.out.mono ?_
 rintro r w1 ⟨rfl,b1⟩
 go_wp2
 go_ret3
 exact ⟨rfl,b1⟩
theorem xvM (o : Option Addr) (n cap : Nat) (_hn : n <= 200) (E S : List Int) (w : World) (HA : Hid (Calls Tryz.prog 109 #[.pointer (some ⟨w.heap.size,0,none⟩)] (w.alloc (.cells #[.slice o n cap,.slice none 0 0,.slice none 0 0] 160)) fun r w' => r = .returned (.int .i64 0) /\ ∃ gE gS cE cS,QS w w' w.heap.size gE gS n cE cS o cap E S)) :
  Calls Tryz.prog 101 #[.slice o n cap] w fun r w' => ∃ gE gS cE cS,r = .returned (.tuple #[.slice (some ⟨gE,0,none⟩) n cE,.slice (some ⟨gS,0,none⟩) n cS,.int .i64 0]) /\ QS w w' w.heap.size gE gS n cE cS o cap E S := by
 go_enter Tryz.func101,Tryz.ntmps101
 go_wp2_with fail
 refine HA.out.mono ?_
 rintro r w1 ⟨rfl,gE,gS,cE,cS,hq⟩
 obtain ⟨q0,q1,q2⟩ := hq.cells
 have HQ := kZz hq
 clear hq
 go_wp2
 go_region
 all_goals
  go_wp2
  go_ret3
  exact ⟨gE,gS,cE,cS,rfl,HQ.out.drew⟩
theorem xtR (o : Option Addr) (cap : Nat) (L : List InsD) (w : World) (h : LD w o L) (hcap : L.length <= cap) (hM : MaxIn w) :
  Calls Tryz.prog 101 #[.slice o L.length cap] w fun r w' => Below w.heap.size w w' /\ ((xuQ L ≠ 0 /\ r = .returned (.tuple #[.slice none 0 0,.slice none 0 0,.int .i64 (xuQ L)])) \/
   (xuQ L = 0 /\ ∃ gE gS cE cS,r = .returned (.tuple #[.slice (some ⟨gE,0,none⟩) L.length cE,.slice (some ⟨gS,0,none⟩) L.length cS,.int .i64 0]) /\ QS w w' w.heap.size gE gS L.length cE cS o cap (xfE L).2.1 (xfE L).2.2)) := by
 by_cases hn : 200 < L.length
 ·have hv : xuQ L = 2 := by unfold xuQ; rw [if_pos hn]
  refine (xnI o L.length cap hn w).mono ?_
  rintro r w1 ⟨rfl,rfl⟩
  exact ⟨Below.refl _ _,Or.inl ⟨by rw [hv]; decide,by rw [hv]⟩⟩
 ·have hv := xwL L (by omega)
  have hA := yfH o cap w.heap.size L w (w.alloc (.cells #[.slice o L.length cap,.slice none 0 0,.slice none 0 0] 160)) (by omega) hcap h hM ⟨World.ownsRow_nil _ _ _ _,World.ownsRow_nil _ _ _ _,by simp,heap_alloc_new w _,by simp,by simp,Nat.le_refl _,(Below.refl _ _).alloc (Nat.le_refl _) _⟩
  rw [hv]
  generalize vd (xeH L [] false) = V at hA
  by_cases h0 : V = 0
  ·subst h0
   refine (xvM o L.length cap (by omega) _ _ w (hA.mono fun r w' h => ⟨h.1,h.2.2 rfl⟩)).mono ?_
   rintro r w1 ⟨gE,gS,cE,cS,rfl,hq⟩
   exact ⟨hq.below,Or.inr ⟨rfl,gE,gS,cE,cS,rfl,hq⟩⟩
  ·refine (xtS o L.length cap (by omega) V (by rw [beq_eq_false_iff_ne]; exact h0) w (hA.mono fun r w' h => ⟨h.1,h.2.1⟩)).mono ?_
   rintro r w1 ⟨rfl,b⟩
   exact ⟨b,Or.inl ⟨h0,rfl⟩⟩
theorem xnJ (o : Option Addr) (n cap : Nat) (e : Int) (w : World) (HA : Hid (Calls Tryz.prog 101 #[.slice o n cap] w fun r w' => ∃ a b c d x y,r = .returned (.tuple #[.slice a b c,.slice d x y,.int .i64 e]) /\ Below w.heap.size w w')) :
  Calls Tryz.prog 89 #[.slice o n cap] w fun r w' => r = .returned (.int .i64 e) /\ Below w.heap.size w w' := by
 go_enter Tryz.func89,Tryz.ntmps89
 go_wp2_with fail
 refine HA.out.mono ?_
 rintro r w1 ⟨a,b,c,d,x,y,rfl,b1⟩
 go_wp2
 go_ret
 exact ⟨rfl,b1⟩
theorem xpI (o : Option Addr) (cap : Nat) (L : List InsD) (w : World) (h : LD w o L) (hcap : L.length <= cap) (hM : MaxIn w) :
  Calls Tryz.prog 89 #[.slice o L.length cap] w fun r w' => r = .returned (.int .i64 (xuQ L)) /\ Below w.heap.size w w' := by
 refine xnJ o L.length cap (xuQ L) w ((xtR o cap L w h hcap hM).mono ?_)
 rintro r w1 ⟨b,h⟩
 rcases h with ⟨_,rfl⟩ | ⟨h0,gE,gS,cE,cS,rfl,_⟩
 ·exact ⟨_,_,_,_,_,_,rfl,b⟩
 ·rw [h0]
  exact ⟨_,_,_,_,_,_,rfl,b⟩
end Go.Proofs.YtmmjgdaamkdncaaGreatDoor
