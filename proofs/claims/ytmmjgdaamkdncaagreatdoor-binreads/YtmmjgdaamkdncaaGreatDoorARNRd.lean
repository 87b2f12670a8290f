import Derived.Test.YtmmjgdaamkdncaaGreatDoorANQ
import Derived.Test.YtmmjgdaamkdncaaGreatDoorAQL
namespace Go.Proofs.YtmmjgdaamkdncaaGreatDoor
set_option maxHeartbeats 8000000
set_option maxRecDepth 1000000
set_option linter.unusedVariables false
open Go.RowKit
theorem xmC : ∀ (L : List InsD) (d : InsD) (bs : List Int) (en : Bool),xeH (L ++ [d]) bs en = if (xeH L bs en).1 = 0 then xeH [d] (xeH L bs en).2.1 (xeH L bs en).2.2 else xeH L bs en
 | [],d,bs,en => by
  rw [List.nil_append,show xeH [] bs en = (0,bs,en) from rfl,if_pos rfl]
 | x :: L,d,bs,en => by
  rw [List.cons_append,xeH,xeH]
  by_cases h0 : (xaH (xeK x) x.op bs en).1 = 0
  ·rw [if_pos h0,if_pos h0]
   exact xmC L d _ _
  ·rw [if_neg h0,if_neg h0,if_neg h0]
theorem ybW (op A B : Int) (n : Nat) (xs : List Int) : ybV op A B n xs ≠ 3 := by
 unfold ybV
 repeat' split
 all_goals decide
theorem xwN (c op : Int) (bs : List Int) (en : Bool) (hc : c ≠ 3) : (xaH c op bs en).1 ≠ 3 := by
 unfold xaH
 repeat' split
 all_goals first | exact hc | simp
theorem xrF (d : InsD) (bs : List Int) : xeH [d] bs false = if (xaH (xeK d) d.op bs false).1 = 0 then (0,(xaH (xeK d) d.op bs false).2.1,(xaH (xeK d) d.op bs false).2.2) else xaH (xeK d) d.op bs false := rfl
theorem yaT (L : List InsD) (d : InsD) (bs : List Int) (h : xeH L [] false = (0,bs,false)) (hl : (L ++ [d]).length <= 200) : xuQ (L ++ [d]) = if (xaH (xeK d) d.op bs false).1 = 0 then (if (xaH (xeK d) d.op bs false).2.2 = true then 0 else 3) else (xaH (xeK d) d.op bs false).1 := by
 rw [xwL _ hl,xmC,h,if_pos rfl,xrF]
 unfold vd
 by_cases h0 : (xaH (xeK d) d.op bs false).1 = 0
 ·rw [if_pos h0,if_pos rfl,if_pos h0]
 ·rw [if_neg h0,if_neg h0]
theorem ydU {w : World} {B cap : Nat} {o : Option Addr} {xs : List Int} {op A B' : Int} (h : w.ownsRow B 2 1 (.slice o xs.length cap) xs.length (xs.map (Value.int .i64))) (h0 : 0 <= op) (h1 : op <= 255) (hA : -9223372036854775808 <= A /\ A <= 9223372036854775807) : InsD.ok w ⟨op,A,B',o,xs.length,cap,xs⟩ /\ (0 < xs.length -> ∃ (g : Addr) (cur : Array Value) (f : Nat × Nat),o = some g /\ w.heap[g.block]? = some (.cells cur 2 f)) := by
 rcases h.2 with ⟨hv,hn⟩ | ⟨g,c,cur,hv,hb,hg,hc,hm,_⟩
 ·simp only [Value.slice.injEq] at hv
  obtain ⟨rfl,_,rfl⟩ := hv
  exact ⟨⟨h0,h1,hA,by simp only; omega,by unfold maxLen; simp,⟨rfl,Or.inl hn⟩,fun _ => rfl⟩,fun h => by omega⟩
 ·simp only [Value.slice.injEq] at hv
  obtain ⟨rfl,_,rfl⟩ := hv
  refine ⟨⟨h0,h1,hA,hc,hm,⟨rfl,?_⟩,by simp⟩,fun _ => ⟨_,cur,_,rfl,hg⟩⟩
  rcases Nat.eq_zero_or_pos xs.length with h0 | h0
  ·exact Or.inl h0
  ·right
   refine ⟨⟨g,0,none⟩,rfl,(h.lt g rfl).2,fun i hi => ?_⟩
   have := h.cells (g := g) rfl i (.int .i64 (xs.getD i 0)) (by
    simp only at hi
    rw [List.getElem?_map,List.getElem?_eq_getElem hi,List.getD_eq_getElem?_getD,List.getElem?_eq_getElem hi]
    rfl)
   exact this
theorem yhH (w : World) (c : Obj) (n : Nat) (h : n = w.heap.size) : (w.alloc c).heap[n]? = some c := by
 rw [h]
 exact heap_alloc_new w c
theorem xpJ (s : ByteArray) (hs : s.size <= maxLen) (R : Int × List V4 × List Int) (w : World) (HR0 : Hid (xmU [] (nRd 200 (xaX s) []) = R))
  (HRD : Hid (∀ (a : Nat) w',Below w.heap.size w w' -> Calls Tryz.prog 88 #[.string (s.extract a s.size)] w' fun r w'' => Below w'.heap.size w' w'' /\
   ((¬ (xbZ ((xaX s).drop a) 0).e = 0 /\ r = .returned (.tuple #[.agg #[.int .u8 0,.int .i64 0,.int .i64 0,.slice none 0 0],.int .i64 0,.int .i64 (xbZ ((xaX s).drop a) 0).e])) \/
    ((xbZ ((xaX s).drop a) 0).e = 0 /\ ∃ oT cT,r = .returned (.tuple #[.agg #[.int .u8 (xbZ ((xaX s).drop a) 0).op,.int .i64 (xbZ ((xaX s).drop a) 0).A,.int .i64 (xbZ ((xaX s).drop a) 0).B,.slice oT (xbZ ((xaX s).drop a) 0).To.length cT],.int .i64 ((((xaX s).drop a).length : Int) - ((xbZ ((xaX s).drop a) 0).l.length : Int)),.int .i64 0]) /\ w''.ownsRow w'.heap.size 2 1 (.slice oT (xbZ ((xaX s).drop a) 0).To.length cT) (xbZ ((xaX s).drop a) 0).To.length ((xbZ ((xaX s).drop a) 0).To.map (Value.int .i64))))))
  (HNC : Hid (∀ (o : Option Addr) (cap : Nat) (L : List InsD) w',Below w.heap.size w w' -> LD w' o L -> L.length <= cap -> Calls Tryz.prog 89 #[.slice o L.length cap] w' fun r w'' => r = .returned (.int .i64 (xuQ L)) /\ Below w'.heap.size w' w'')) :
  Calls Tryz.prog 70 #[.string s] w fun r w' => Below w.heap.size w w' /\ ((R.1 ≠ 0 /\ r = .returned (.tuple #[.slice none 0 0,.int .i64 0,.int .i64 R.1])) \/
   (R.1 = 0 /\ ∃ (o : Option Addr) (cap : Nat) (L : List InsD),r = .returned (.tuple #[.slice o L.length cap,.int .i64 ((s.size : Int) - (R.2.2.length : Int)),.int .i64 0]) /\ IR w' w.heap.size o L.length cap L /\ L.map InsD.val = R.2.1)) := by
 obtain ⟨i0,hi,hz0,hz1,hz2⟩ := info_parts Tryz.infoIns
 have hm : s.size <= 9223372036854775807 := by unfold maxLen at hs; omega
 have hbyte : ∀ b ∈ xaX s,0 <= b /\ b < 256 := xaE s
 have HBy := kZz hbyte
 have hnl : (xaX s).length = s.size := xaY s
 have HNL := kZz hnl
 clear hbyte hnl
 go_enter Tryz.func70,Tryz.ntmps70
 go_wp2
 go_loopw [5,6] (fun lst av wr => ∃ k a cap : Nat,∃ o : Option Addr,∃ L : List InsD,∃ bs : List Int,lst = .slice o k cap /\ av = .int .i64 (a : Int) /\ k <= 200 /\ a <= s.size /\ bs.length <= 12 /\ Hid (xeH L [] false = (0,bs,false)) /\ Hid (IR wr w.heap.size o k cap L) /\ Hid (xmU (L.map InsD.val) (nRd (200 - k) ((xaX s).drop a) bs) = R) /\ Hid (Below w.heap.size w wr)) (fun _ av _ => s.size - (intOf av).toNat)
 case atStart => exact ⟨0,0,0,none,[],[],rfl,rfl,by omega,by omega,by simp,rfl,IR.nil _ _,HR0,Below.refl _ _⟩
 case round =>
  obtain ⟨k,a,cap,o,L,bs,rfl,rfl,hk,ha,hbs,HN,HI,HQ1,HB⟩ := hrel
  clear HR0
  have hPw : w.heap.size <= wr.heap.size := HB.out.size
  ·skip
   have ha0 : (0 : Int) <= (a : Int) := by omega
   have ha1 : (a : Int) <= (s.size : Int) := by omega
   have hcl := (HI.out.capm).1
   have hcm := (HI.out.capm).2
   unfold maxLen at hcm
   go_wp2_with fail
   refine (HRD.out a _ HB.out).mono ?_
   rintro e w1 ⟨b1,h1⟩
   rcases h1 with ⟨he,rfl⟩ | ⟨he,oT,cT,rfl,hv⟩
   ·have HQ2 : Hid (((xbZ ((xaX s).drop a) 0).e,[],[]) = R) := by
     have := HQ1.out
     rw [xwM _ _ _ he,xgP _ _ he] at this
     exact this
    have HB1 : Hid (Below w.heap.size w w1) := HB.out.trans (b1.mono (by omega))
    generalize (xbZ ((xaX s).drop a) 0).e = M at he HQ2
    have hb0 : (M == 0) = false := by rw [beq_eq_false_iff_ne]; exact he
    have hn0 : (M != 0) = true := by rw [bne,hb0]; rfl
    clear HQ1 HN HI HB b1
    go_wp2
    go_ret3
    refine ⟨HB1.out.alloc (by have := HB1.out.size; omega) _,Or.inl ?_⟩
    rw [<- HQ2.out]
    exact ⟨he,rfl⟩
   ·have hbyl : ∀ b ∈ (xaX s).drop a,0 <= b /\ b < 256 := fun b hb => HBy.out b (List.mem_of_mem_drop hb)
    obtain ⟨⟨hop0,hop1⟩,hfit,hA,hlen⟩ := xqS _ hbyl he
    have hsuf := xjW (xmB ((xaX s).drop a) 0)
    have HQ2 : Hid (k = 200 -> (2,[],[]) = R) := by
     intro hk2
     have := HQ1.out
     rw [hk2,Nat.sub_self,xoL _ _ he,xgP _ _ (by decide)] at this
     exact this
    have HQ3 : Hid (k < 200 -> xmU (L.map InsD.val) (nRd (200 - k - 1 + 1) ((xaX s).drop a) bs) = R) := by
     intro hk2
     have := HQ1.out
     rw [show 200 - k = 200 - k - 1 + 1 by omega] at this
     exact this
    have HQ4 : Hid (type_of% (xhJ (200 - k - 1) ((xaX s).drop a) bs he)) := xhJ _ _ _ he
    have hTo : (xbZ ((xaX s).drop a) 0).To.length <= 1000 := by
     rcases hfit with h | h | h | h | h | h | h | h | h
     ·rw [h.2.2.2]; simp
     ·rw [h.2.2.2]; simp
     ·rw [h.2.2.2]; simp
     ·omega
     ·rw [h.2.2.2]; simp
     ·rw [h.2.2.2]; simp
     ·rw [h.2.2.2]; simp
     ·rw [h.2.2.2.2]; simp
     ·rw [h.2.2]; simp
    rw [List.length_drop,HNL.out] at hlen hsuf
    have hdl : ((xaX s).drop a).length = s.size - a := by rw [List.length_drop,HNL.out]
    rw [hdl]
    clear hbyl hfit HQ1 he hdl
    generalize xbZ ((xaX s).drop a) 0 = M at hop0 hop1 hA hlen hsuf HQ2 HQ3 HQ4 hTo hv
    obtain ⟨op,A,B,xs,lr,er⟩ := M
    simp only at hop0 hop1 hA hlen hsuf hTo hv
    have hszE : ((s.size - a : Nat) : Int) - (lr.length : Int) = ((s.size - a - lr.length : Nat) : Int) := by omega
    simp only [hszE]
    have hst : 1 <= s.size - a - lr.length := by omega
    have hsl : s.size - a - lr.length <= s.size - a := by omega
    have HLR : Hid (lr = (xaX s).drop (a + (s.size - a - lr.length))) := by
     unfold Hid
     rw [List.drop_drop] at hsuf
     exact hsuf
    generalize s.size - a - lr.length = sz at hst hsl HLR
    obtain ⟨hdok,hdty⟩ := ydU (B' := B) hv hop0 hop1 hA
    have HB1 : Hid (Below w.heap.size w w1) := HB.out.trans (b1.mono (by omega))
    have hw1 : w.heap.size <= w1.heap.size := Nat.le_trans hPw b1.size
    have bA : Below w1.heap.size w1 (w1.alloc (.cells #[.int .u8 op,.int .i64 A,.int .i64 B,.slice oT xs.length cT] 100)) := (Below.refl _ _).alloc (Nat.le_refl _) _
    have HI1 : Hid (IR (w1.alloc (.cells #[.int .u8 op,.int .i64 A,.int .i64 B,.slice oT xs.length cT] 100)) w.heap.size o k cap L) := (HI.out.under b1).under bA
    have HB2 : Hid (Below w.heap.size w (w1.alloc (.cells #[.int .u8 op,.int .i64 A,.int .i64 B,.slice oT xs.length cT] 100))) := HB1.out.trans (bA.mono (by omega))
    obtain ⟨d,hd⟩ : ∃ d : InsD,d = ⟨op,A,B,oT,xs.length,cT,xs⟩ := ⟨_,rfl⟩
    have HD : Hid (d.ok w1 /\ (0 < d.n -> ∃ (g : Addr) (cur : Array Value) (f : Nat × Nat),d.o = some g /\ w1.heap[g.block]? = some (.cells cur 2 f))) := by
     rw [hd]
     exact ⟨hdok,hdty⟩
    have hXB : (w1.alloc (.cells #[.int .u8 op,.int .i64 A,.int .i64 B,.slice oT xs.length cT] 100)).heap[w1.heap.size]? = some (.cells #[.int .u8 op,.int .i64 A,.int .i64 B,.slice oT xs.length cT] 100 (0,0)) := heap_alloc_new w1 _
    have HXB := kZz hXB
    have hval : (Got.mk op A B xs lr er).val = d.val := by rw [hd]; rfl
    have hchk : d.val.chk = xeK d := xuJ d (by rw [hd])
    rw [hval,hchk] at HQ4
    dsimp only at HQ4
    have HDC : Hid (d.cells = [.int .u8 op,.int .i64 A,.int .i64 B,.slice oT xs.length cT]) := by rw [hd]; rfl
    have HDN : Hid (d.n = xs.length /\ d.o = oT) := by rw [hd]; exact ⟨rfl,rfl⟩
    have HDO : Hid (d.op = op) := by rw [hd]; rfl
    clear hd hdok hdty hval hchk hXB bA hop0 hop1 hA hTo hv HI HB b1
    generalize xs.length = nx at HDC HDN HXB HB2 HI1
    by_cases hk2 : k = 200
    ·subst hk2
     go_wp2
     go_ret3
     refine ⟨HB2.out,Or.inl ?_⟩
     rw [<- HQ2.out trivial]
     exact ⟨by decide,rfl⟩
    ·have hkl : k < 200 := by omega
     have hkb : ((k : Int) == 200) = false := by rw [beq_eq_false_iff_ne]; omega
     have hlen2 := xoN (xeK d) op bs false hbs
     have hne3 := xwN (xeK d) op bs false (ybW _ _ _ _ _)
     have HQ5 := kZz (HQ3.out hkl)
     rw [HQ4.out] at HQ5
     have HCL : Hid (xuQ (L ++ [d]) = if (xaH (xeK d) op bs false).1 = 0 then (if (xaH (xeK d) op bs false).2.2 = true then 0 else 3) else (xaH (xeK d) op bs false).1) := by
      have := yaT L d bs HN.out (by have := HI1.out.len; simp; omega)
      rw [HDO.out] at this
      exact this
     have HRN : Hid ((xaH (xeK d) op bs false).1 = 0 -> xeH (L ++ [d]) [] false = (0,(xaH (xeK d) op bs false).2.1,(xaH (xeK d) op bs false).2.2)) := by
      intro h0
      rw [xmC,HN.out,if_pos rfl,xrF,HDO.out,if_pos h0]
     obtain ⟨⟨r0,bs2,en2⟩,hst2⟩ : ∃ m,xaH (xeK d) op bs false = m := ⟨_,rfl⟩
     rw [hst2] at HQ5 hlen2 HCL HRN hne3
     dsimp only at HQ5 hlen2 HCL HRN hne3
     have xX : XS (w1.alloc (.cells #[.int .u8 op,.int .i64 A,.int .i64 B,.slice oT nx cT] 100)) w1.heap.size (.int .u8 op) (.int .i64 A) (.int .i64 B) (.slice oT nx cT) := HXB.out
     obtain ⟨x0,x1,x2,x3⟩ := xX.cell
     have hIo := HI1.out.own.alloc (.cells #[.int .u8 op,.int .i64 A,.int .i64 B,.slice oT nx cT] 100)
     have HIO := kZz hIo
     clear hst2 HQ2 HQ3 HQ4 xX HN hIo
     go_wp2_with (at_builtin; refine wpList_append_lies _ rfl _ _ 53 rfl w.heap.size 100 i0 (.agg #[.int .u8 0,.int .i64 0,.int .i64 0,.slice none 0 0]) 4 48 Tryz.underlying53 hi hz0 hz1 hz2 rfl (by omega) _ k (xeI L) rfl HIO.out ⟨w1.heap.size + 1,0,none⟩ 1 1 [.int .u8 op,.int .i64 A,.int .i64 B,.slice oT nx cT] rfl rfl (World.news_of_block (cs := #[.int .u8 op,.int .i64 A,.int .i64 B,.slice oT nx cT]) (t := 100) (fr := (0,0)) (yhH (w1.alloc _) _ _ (by simp))) (by simp [Value.oneCell']) (by omega) (by unfold maxLen; omega) (by omega) (by simp; omega) (w1.heap.size + 1 + 1) (by simp) ?_)
     intro g capg w3 hown hgrow hat hlt
     have bB : Below w1.heap.size w1 ((w1.alloc (.cells #[.int .u8 op,.int .i64 A,.int .i64 B,.slice oT nx cT] 100)).alloc (.cells #[.int .u8 op,.int .i64 A,.int .i64 B,.slice oT nx cT] 100)) := ((Below.refl _ _).alloc (Nat.le_refl _) _).alloc (by simp) _
     have bC : Below (w1.alloc (.cells #[.int .u8 op,.int .i64 A,.int .i64 B,.slice oT nx cT] 100)).heap.size (w1.alloc (.cells #[.int .u8 op,.int .i64 A,.int .i64 B,.slice oT nx cT] 100)) ((w1.alloc (.cells #[.int .u8 op,.int .i64 A,.int .i64 B,.slice oT nx cT] 100)).alloc (.cells #[.int .u8 op,.int .i64 A,.int .i64 B,.slice oT nx cT] 100)) := (Below.refl _ _).alloc (Nat.le_refl _) _
     have HI3 : Hid (IR w3 w.heap.size (some ⟨g,0,none⟩) (k + 1) capg (L ++ [d])) := by
      refine (HI1.out.under bC).app (HD.out.1.below bB) (fun h0 => ?_) (by rw [HDC.out]; exact hown) hgrow
      obtain ⟨g',cur,f,e1,e2⟩ := HD.out.2 h0
      exact ⟨g',cur,f,e1,by rw [bB.block _ (xaU e2)]; exact e2⟩
     have HB4 : Hid (Below w.heap.size w w3) := (HB2.out.alloc (by simp; omega) _).grown hgrow (by simp; omega) (fun j hj => (HI1.out.own.lt j hj).1)
     have hcapg := HI3.out.capm.1
     have hLk : (L ++ [d]).length = k + 1 := HI3.out.len
     have HNC1 := HNC.out (some ⟨g,0,none⟩) capg (L ++ [d]) w3 HB4.out HI3.out.LD (by omega)
     rw [hLk,HCL.out] at HNC1
     have HNC2 := kZz HNC1
     clear hown hgrow hat hlt bB bC HI1 HB2 HD x0 x1 x2 x3 HIO HXB HNC1
     have hszm : (a : Int) + (sz : Int) <= 9223372036854775807 := by omega
     by_cases hr0 : r0 = 0
     ·subst hr0
      rw [if_pos rfl] at HNC2
      cases en2 with
      | true =>
       rw [if_pos rfl] at HNC2
       have HQ6 : Hid ((0,(L ++ [d]).map InsD.val,(xaX s).drop (a + sz)) = R) := by
        have h5 := HQ5.out
        rw [if_pos rfl,if_pos rfl] at h5
        rw [<- HLR.out,List.map_append,<- h5]
        rfl
       clear HQ5 HRN
       go_wp2_with fail
       refine HNC2.out.mono ?_
       rintro r w4 ⟨rfl,b4⟩
       go_wp2
       go_ret3
       have hB5 := HB4.out.trans (b4.mono HB4.out.size)
       have hQ := HQ6.out
       subst hQ
       refine ⟨hB5,Or.inr ⟨rfl,some ⟨g,0,none⟩,capg,L ++ [d],?_,?_,rfl⟩⟩
       ·rw [hLk,List.length_drop,HNL.out]
        rw [show (s.size : Int) - ((s.size - (a + sz) : Nat) : Int) = (a : Int) + (sz : Int) by omega]
        rfl
       ·rw [hLk]
        exact HI3.out.under b4
      | false =>
       rw [if_neg (by decide)] at HNC2
       have HQ6 : Hid (xmU ((L ++ [d]).map InsD.val) (nRd (200 - (k + 1)) ((xaX s).drop (a + sz)) bs2) = R) := by
        have h5 := HQ5.out
        rw [if_pos rfl,if_neg (by decide),xsM] at h5
        rw [List.map_append,<- HLR.out,show 200 - (k + 1) = 200 - k - 1 by omega]
        exact h5
       have HN2 : Hid (xeH (L ++ [d]) [] false = (0,bs2,false)) := HRN.out rfl
       clear HQ5 HRN
       go_wp2_with fail
       refine HNC2.out.mono ?_
       rintro r w4 ⟨rfl,b4⟩
       have HI4 : Hid (IR w4 w.heap.size (some ⟨g,0,none⟩) (k + 1) capg (L ++ [d])) := HI3.out.under b4
       have HB5 : Hid (Below w.heap.size w w4) := HB4.out.trans (b4.mono HB4.out.size)
       clear b4 HI3 HB4 HNC2
       go_wp2
       go_roundw
       case rel => exact ⟨k + 1,a + sz,capg,_,L ++ [d],bs2,rfl,by go_num,by omega,by omega,hlen2,HN2,HI4,HQ6,HB5⟩
       case measure => simp [intOf]; omega
     ·have hb0 : (r0 == 0) = false := by rw [beq_eq_false_iff_ne]; exact hr0
      have hb3 : (r0 == 3) = false := by rw [beq_eq_false_iff_ne]; exact hne3
      rw [if_neg hr0] at HNC2
      have HQ6 : Hid ((r0,[],[]) = R) := by
       have h5 := HQ5.out
       rw [if_neg hr0,xgP _ _ hr0] at h5
       exact h5
      clear HQ5 HRN
      go_wp2_with fail
      refine HNC2.out.mono ?_
      rintro r w4 ⟨rfl,b4⟩
      go_wp2
      go_ret3
      refine ⟨HB4.out.trans (b4.mono HB4.out.size),Or.inl ?_⟩
      rw [<- HQ6.out]
      exact ⟨hr0,rfl⟩
theorem xtT (s : ByteArray) (hs : s.size <= maxLen) (w : World) (hM : MaxIn w) :
  Calls Tryz.prog 70 #[.string s] w fun r w' => Below w.heap.size w w' /\ (((nRd 200 (xaX s) []).1 ≠ 0 /\ r = .returned (.tuple #[.slice none 0 0,.int .i64 0,.int .i64 (nRd 200 (xaX s) []).1])) \/
   ((nRd 200 (xaX s) []).1 = 0 /\ ∃ (o : Option Addr) (cap : Nat) (L : List InsD),r = .returned (.tuple #[.slice o L.length cap,.int .i64 ((s.size : Int) - ((nRd 200 (xaX s) []).2.2.length : Int)),.int .i64 0]) /\ IR w' w.heap.size o L.length cap L /\ L.map InsD.val = (nRd 200 (xaX s) []).2.1)) := by
 refine xpJ s hs _ w (xsN _ (xrD _ _ _)) (fun a w' b => ?_) (fun o cap L w' b hl hc => xpI o cap L w' hl hc (hM.below b))
 have := xvO (s.extract a s.size) (xbF s a hs) w' (hM.below b)
 rw [xbN,<- xaY (s.extract a s.size),xbN] at this
 exact this
end Go.Proofs.YtmmjgdaamkdncaaGreatDoor
