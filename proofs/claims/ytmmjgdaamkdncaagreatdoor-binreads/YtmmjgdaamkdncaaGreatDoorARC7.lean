import Derived.Test.YtmmjgdaamkdncaaGreatDoorARL
namespace Go.Proofs.YtmmjgdaamkdncaaGreatDoor
set_option maxHeartbeats 16000000
set_option maxRecDepth 1000000
open Go.RowKit
set_option linter.unusedVariables false
def xmP (x : Except Int DrV) : Except Int DrV := match x with
 | .error e => .error e
 | .ok d => if d.ftypes.length = d.codes.length then .ok d else .error 4
theorem ycB {l r : List Int} {u : Unit} (h : xbO head8 l = .ok (u,r)) : rM l = xmP (rSecs 0 DrV.zero r) := by
 unfold rM xmP
 rw [h]
 rfl
theorem Rel.bad' {α : Type} {p : Rd α} {q : List Int -> Int -> α × List Int × Int} (h : Rel p q) {l : List Int} (hb : Bts l) (h0 : (q l 0).2.2 ≠ 0) : p l = .error (q l 0).2.2 := by
 cases hp : p l with
 | error e => rw [(h.err l e hb hp).1]
 | ok z =>
  obtain ⟨x,r⟩ := z
  rw [(h.ok l x r hb hp).1] at h0
  exact absurd rfl h0
theorem xcX (b : Int) (r l : List Int) (a : Int) : xcW (b :: r) l a = xcW r (xaA b 4 l a).1 (xaA b 4 l a).2 := rfl
def xqO (P : Nat) (w : World) : Int := match w.cell? ⟨P,2,none⟩ with
 | some (.int _ e) => e
 | _ => 0
def yhF (P : Nat) (lv : Value) (w : World) : Nat := if xqO P w = 0 then 12 - (intOf lv).toNat else 0
theorem xjP {w : World} {P : Nat} {l : List Int} {n a : Int} (h : CL w P l n a) : xqO P w = a := by
 obtain ⟨s,_,_,hc⟩ := h
 unfold xqO
 rw [hc.cell.2.2]
theorem xeT (tmps : Array Value) (W : World) (M : Nat) (C : Array Value) (x : Int) (h2 : tmps.getD 2 undef = .pointer (some ⟨M,0,none⟩)) (h3 : tmps.getD 3 undef = .int .i64 x) (hM : W.heap[M]? = some (.cells C 30 (0,0))) (hC : (Tryz.prog.info? 30).map (·.size) = some C.size) :
  (results Tryz.f5 tmps).run Tryz.prog W = .ok (.tuple #[.agg C,.int .i64 x]) W := by
 have h2' : tmps[2]?.getD undef = .pointer (some ⟨M,0,none⟩) := by simpa using h2
 have h3' : tmps[3]?.getD undef = .int .i64 x := by simpa using h3
 have hl := run_loadVar_row (P := Tryz.prog) W M 30 30 C (0,0) _ hM Tryz.underlying30 rfl hC
 simp [results,Tryz.results5,h2',h3',asAddr,hl]
theorem xoH : ∀ (L : List FunD) (k : Nat) (h : k < L.length) (l : NumD) (o : Option Addr) (cap : Nat) (b : List InsD),(L.set k ⟨(L[k]).t,l,o,cap,b⟩).flatMap FunD.cells = ((L.flatMap FunD.cells).set (k * 3 + 1) l.v).set (k * 3 + 2) (.slice o b.length cap)
 | [],k,h,l,o,cap,b => absurd h (by simp)
 | d :: L,0,h,l,o,cap,b => rfl
 | d :: L,k + 1,h,l,o,cap,b => by
  have hk : k < L.length := by simpa using h
  have := xoH L k hk l o cap b
  rw [List.set_cons_succ,List.flatMap_cons,List.getElem_cons_succ,this,List.flatMap_cons,show (k + 1) * 3 + 1 = 3 + (k * 3 + 1) by omega,show (k + 1) * 3 + 2 = 3 + (k * 3 + 2) by omega]
  have e : ∀ (xs : List Value) (i : Nat) (v : Value),(FunD.cells d ++ xs).set (3 + i) v = FunD.cells d ++ xs.set i v := fun xs i v => by
   rw [List.set_append_right _ _ (show (FunD.cells d).length <= 3 + i from Nat.le_add_right _ _),show 3 + i - (FunD.cells d).length = i from Nat.add_sub_cancel_left _ _]
  rw [e,e]
theorem LR.other {D : Type} {w w' : World} {B : Nat} {t : TypeId} {k : Nat} {cs : D -> List Value} {ok : World -> D -> Prop} {o : Option Addr} {n cap g : Nat} {L : List D} (h : LR w B t k cs ok o n cap L) (c : Chg g w w') (hne : ∀ a : Addr,o = some a -> a.block ≠ g) (hok : ∀ d,ok w d -> ok w' d) : LR w' B t k cs ok o n cap L := by
 refine ⟨⟨h.own.1,?_⟩,h.len,fun d hd => hok d (h.ok d hd)⟩
 rcases h.own.2 with hn | ⟨b,c1,cur,hv,hb,hg,rest⟩
 ·exact Or.inl hn
 ·refine Or.inr ⟨b,c1,cur,hv,hb,?_,rest⟩
  have hv2 := hv
  simp only [Value.slice.injEq] at hv2
  rw [c.block b (xaU hg) (hne _ hv2.1),hg]
theorem xvN {w : World} {N g n cap k : Nat} {T : TypeId} {xs : List Value} (h : w.ownsRow N T k (.slice (some ⟨g,0,none⟩) n cap) n xs) (i : Nat) (v : Value) : (w.setCell ⟨g,i,none⟩ v).ownsRow N T k (.slice (some ⟨g,0,none⟩) n cap) n (xs.set i v) := by
 obtain ⟨hl,hown⟩ := h
 rcases hown with ⟨hv,_⟩ | ⟨g',c',cur,hv,hB,hg,h1,h2,h3,h4⟩
 ·simp at hv
 simp only [Value.slice.injEq,Option.some.injEq,Addr.mk.injEq,and_true,true_and] at hv
 obtain ⟨rfl,rfl⟩ := hv
 refine ⟨by rw [List.length_set]; exact hl,Or.inr ⟨g,cap,cur.setIfInBounds i v,rfl,hB,?_,h1,h2,by simpa using h3,?_⟩⟩
 ·rw [setCell_eq_setRow w g i cur T (0,0) _ hg]
  exact setRow_heap w g cur _ _ _ hg
 ·rw [Array.toList_setIfInBounds,<- h4,List.take_set]
theorem LR.setLB {w : World} {N g n cap k : Nat} {L : List FunD} (h : LR w N 55 3 FunD.cells FunG (some ⟨g,0,none⟩) n cap L) (hk : k < L.length) (l : NumD) (o : Option Addr) (c : Nat) (b : List InsD) (hx : FunG w ⟨(L[k]).t,l,o,c,b⟩) : LR ((w.setCell ⟨g,k * 3 + 1,none⟩ l.v).setCell ⟨g,k * 3 + 2,none⟩ (.slice o b.length c)) N 55 3 FunD.cells FunG (some ⟨g,0,none⟩) n cap (L.set k ⟨(L[k]).t,l,o,c,b⟩) := by
 have hb : k * 3 + 3 <= n * 3 := by
  have := h.len
  omega
 have e1 := xvN h.own (k * 3 + 1) l.v
 have e2 := xvN e1 (k * 3 + 2) (.slice o b.length c)
 obtain ⟨cur,hc⟩ : ∃ cur,w.heap[g]? = some (.cells cur 55 (0,0)) := by
  rcases h.typed with h0 | ⟨g',cur,h1,_,h3⟩
  ·omega
  ·simp only [Option.some.injEq,Addr.mk.injEq,and_true] at h1
   subst h1
   exact ⟨cur,h3⟩
 have q : Kp (fun t => t != 55) w ((w.setCell ⟨g,k * 3 + 1,none⟩ l.v).setCell ⟨g,k * 3 + 2,none⟩ (.slice o b.length c)) := Kp.chg hc ((Chg.set g _ w _).trans (Chg.set g _ _ _)) _ (by decide)
 refine ⟨by rw [xoH L k hk l o c b]; exact e2,by rw [List.length_set]; exact h.len,fun d hd => ?_⟩
 rcases List.mem_or_eq_of_mem_set hd with hd | rfl
 ·exact (h.ok d hd).kp q (by decide) (by decide) (by decide)
 ·exact FunG.kp (d := ⟨(L[k]).t,l,o,c,b⟩) hx q (by decide) (by decide) (by decide)
theorem xqI (s : ByteArray) (hs : s.size <= maxLen) (w : World) (hMx : MaxIn w) (hw4 : 4 <= w.heap.size) :
  Calls Tryz.prog 5 #[.string s] w (ymF w.heap.size w (xaX s)) := by
 have hsz : s.size <= 9223372036854775807 := by unfold maxLen at hs; omega
 have I11 : Hid ((Tryz.prog.info? 30).map (·.size) = some (#[.slice none 0 0,.slice none 0 0,.slice none 0 0,.int .i64 0,.int .i64 0,.int .i64 0,.slice none 0 0,.slice none 0 0,.int .i64 0,.slice none 0 0,.slice none 0 0] : Array Value).size) := xdO
 by_cases hbig : 4096 < s.size
 ·have HMOD : Hid (xmM (xaX s) = .error 2) := by unfold Hid xmM; rw [if_pos (by rw [xaY]; exact hbig)]
  have HX0 : Hid ((w.alloc (.cells #[.slice none 0 0,.slice none 0 0,.slice none 0 0,.int .i64 0,.int .i64 0,.int .i64 0,.slice none 0 0,.slice none 0 0,.int .i64 0,.slice none 0 0,.slice none 0 0] 30)).heap[w.heap.size]? = some (.cells #[.slice none 0 0,.slice none 0 0,.slice none 0 0,.int .i64 0,.int .i64 0,.int .i64 0,.slice none 0 0,.slice none 0 0,.int .i64 0,.slice none 0 0,.slice none 0 0] 30 (0,0))) := xaZ _ _
  have HB0 : Hid (Below w.heap.size w (w.alloc (.cells #[.slice none 0 0,.slice none 0 0,.slice none 0 0,.int .i64 0,.int .i64 0,.int .i64 0,.slice none 0 0,.slice none 0 0,.int .i64 0,.slice none 0 0,.slice none 0 0] 30))) := (Below.refl _ _).alloc (Nat.le_refl _) _
  have HSR : Hid ((#[.slice none 0 0,.slice none 0 0,.slice none 0 0,.int .i64 0,.int .i64 0,.int .i64 0,.slice none 0 0,.slice none 0 0,.int .i64 0,.slice none 0 0,.slice none 0 0] : Array Value).size = (#[.slice none 0 0,.slice none 0 0,.slice none 0 0,.int .i64 0,.int .i64 0,.int .i64 0,.slice none 0 0,.slice none 0 0,.int .i64 0,.slice none 0 0,.slice none 0 0] : Array Value).size) := rfl
  have HO1 : Hid ((#[.slice none 0 0,.slice none 0 0,.slice none 0 0,.int .i64 0,.int .i64 0,.int .i64 0,.slice none 0 0,.slice none 0 0,.int .i64 0,.slice none 0 0,.slice none 0 0] : Array Value).all (·.oneCell') = true) := by unfold Hid; simp [Value.oneCell']
  go_enter Tryz.func5,Tryz.ntmps5
  go_wp2_with (refine wpList_store_row rfl 30 (.tmp 2) (.tmp 15) rfl w.heap.size #[.slice none 0 0,.slice none 0 0,.slice none 0 0,.int .i64 0,.int .i64 0,.int .i64 0,.slice none 0 0,.slice none 0 0,.int .i64 0,.slice none 0 0,.slice none 0 0] rfl rfl 30 _ HX0.out I11.out rfl HO1.out ?_)
  have hrow : ((w.alloc (.cells #[.slice none 0 0,.slice none 0 0,.slice none 0 0,.int .i64 0,.int .i64 0,.int .i64 0,.slice none 0 0,.slice none 0 0,.int .i64 0,.slice none 0 0,.slice none 0 0] 30)).setRow w.heap.size #[.slice none 0 0,.slice none 0 0,.slice none 0 0,.int .i64 0,.int .i64 0,.int .i64 0,.slice none 0 0,.slice none 0 0,.int .i64 0,.slice none 0 0,.slice none 0 0]).heap[w.heap.size]? = some (.cells #[.slice none 0 0,.slice none 0 0,.slice none 0 0,.int .i64 0,.int .i64 0,.int .i64 0,.slice none 0 0,.slice none 0 0,.int .i64 0,.slice none 0 0,.slice none 0 0] 30 (0,0)) := setRow_heap _ w.heap.size _ _ _ _ HX0.out
  have hcq : Chg w.heap.size (w.alloc (.cells #[.slice none 0 0,.slice none 0 0,.slice none 0 0,.int .i64 0,.int .i64 0,.int .i64 0,.slice none 0 0,.slice none 0 0,.int .i64 0,.slice none 0 0,.slice none 0 0] 30)) ((w.alloc (.cells #[.slice none 0 0,.slice none 0 0,.slice none 0 0,.int .i64 0,.int .i64 0,.int .i64 0,.slice none 0 0,.slice none 0 0,.int .i64 0,.slice none 0 0,.slice none 0 0] 30)).setRow w.heap.size #[.slice none 0 0,.slice none 0 0,.slice none 0 0,.int .i64 0,.int .i64 0,.int .i64 0,.slice none 0 0,.slice none 0 0,.int .i64 0,.slice none 0 0,.slice none 0 0]) := ⟨rfl,rfl,rfl,by simp [World.setRow],fun j _ hj => setRow_other _ w.heap.size j _ hj⟩
  refine bodyPost_ret (xeT _ _ w.heap.size #[.slice none 0 0,.slice none 0 0,.slice none 0 0,.int .i64 0,.int .i64 0,.int .i64 0,.slice none 0 0,.slice none 0 0,.int .i64 0,.slice none 0 0,.slice none 0 0] 2 rfl rfl hrow I11.out) rfl ?_
  exact ⟨HB0.out.trans (hcq.below (Nat.le_refl _) HB0.out.size),Or.inl ⟨2,HMOD.out,rfl⟩⟩
 ·have HMOD : Hid (xmM (xaX s) = rM (xaX s)) := xvF _ (by rw [xaY]; omega)
  have hbz : ¬ 4096 < (s.size : Int) := by omega
  obtain ⟨l,hl⟩ : ∃ l,l = xaX s := ⟨_,rfl⟩
  obtain ⟨v3,hv3⟩ : ∃ v,v = ((w.alloc (.cells #[.slice none 0 0,.slice none 0 0,.slice none 0 0,.int .i64 0,.int .i64 0,.int .i64 0,.slice none 0 0,.slice none 0 0,.int .i64 0,.slice none 0 0,.slice none 0 0] 30)).alloc (.cells #[.slice none 0 0,.slice none 0 0,.slice none 0 0,.int .i64 0,.int .i64 0,.int .i64 0,.slice none 0 0,.slice none 0 0,.int .i64 0,.slice none 0 0,.slice none 0 0] 30)).alloc (.cells #[.slice none 0 0] 24) := ⟨_,rfl⟩
  have HV3 : Hid (v3 = ((w.alloc (.cells #[.slice none 0 0,.slice none 0 0,.slice none 0 0,.int .i64 0,.int .i64 0,.int .i64 0,.slice none 0 0,.slice none 0 0,.int .i64 0,.slice none 0 0,.slice none 0 0] 30)).alloc (.cells #[.slice none 0 0,.slice none 0 0,.slice none 0 0,.int .i64 0,.int .i64 0,.int .i64 0,.slice none 0 0,.slice none 0 0,.int .i64 0,.slice none 0 0,.slice none 0 0] 30)).alloc (.cells #[.slice none 0 0] 24)) := hv3
  obtain ⟨R,hR⟩ : ∃ R,w.heap.size = R := ⟨_,rfl⟩
  obtain ⟨M,hM⟩ : ∃ M,w.heap.size + 1 = M := ⟨_,rfl⟩
  obtain ⟨C,hC⟩ : ∃ C,w.heap.size + 2 = C := ⟨_,rfl⟩
  obtain ⟨P,hP⟩ : ∃ P,v3.heap.size = P := ⟨_,rfl⟩
  have s3 : v3.heap.size = w.heap.size + 3 := by rw [hv3]; simp
  have hPw : P = R + 3 := by omega
  have bw3 : Below R w v3 := by
   rw [hv3,<- hR]
   exact (((Below.refl _ _).alloc (Nat.le_refl _) _).alloc (by simp) _).alloc (by simp; omega) _
  have b23 : Below (w.heap.size + 1) (w.alloc (.cells #[.slice none 0 0,.slice none 0 0,.slice none 0 0,.int .i64 0,.int .i64 0,.int .i64 0,.slice none 0 0,.slice none 0 0,.int .i64 0,.slice none 0 0,.slice none 0 0] 30)) v3 := by
   rw [hv3]
   exact (((Below.refl _ _).alloc (by simp) _).alloc (by simp) _)
  have mR : MX v3 R (mcA modZero) := by
   unfold MX
   rw [<- hR,b23.block w.heap.size (by omega)]
   exact xaZ _ _
  have mM : MX v3 M (mcA modZero) := by
   unfold MX
   have := xaZ (w.alloc (.cells #[.slice none 0 0,.slice none 0 0,.slice none 0 0,.int .i64 0,.int .i64 0,.int .i64 0,.slice none 0 0,.slice none 0 0,.int .i64 0,.slice none 0 0,.slice none 0 0] 30)) (.cells #[.slice none 0 0,.slice none 0 0,.slice none 0 0,.int .i64 0,.int .i64 0,.int .i64 0,.slice none 0 0,.slice none 0 0,.int .i64 0,.slice none 0 0,.slice none 0 0] 30)
   have b2 : Below (w.heap.size + 2) ((w.alloc (.cells #[.slice none 0 0,.slice none 0 0,.slice none 0 0,.int .i64 0,.int .i64 0,.int .i64 0,.slice none 0 0,.slice none 0 0,.int .i64 0,.slice none 0 0,.slice none 0 0] 30)).alloc (.cells #[.slice none 0 0,.slice none 0 0,.slice none 0 0,.int .i64 0,.int .i64 0,.int .i64 0,.slice none 0 0,.slice none 0 0,.int .i64 0,.slice none 0 0,.slice none 0 0] 30)) v3 := by rw [hv3]; exact (Below.refl _ _).alloc (by simp) _
   rw [<- hM,b2.block (w.heap.size + 1) (by omega)]
   rw [show (w.alloc (.cells #[.slice none 0 0,.slice none 0 0,.slice none 0 0,.int .i64 0,.int .i64 0,.int .i64 0,.slice none 0 0,.slice none 0 0,.int .i64 0,.slice none 0 0,.slice none 0 0] 30)).heap.size = w.heap.size + 1 by simp] at this
   exact this
  have mC : CB v3 C (.slice none 0 0) := by
   unfold CB
   have := xaZ ((w.alloc (.cells #[.slice none 0 0,.slice none 0 0,.slice none 0 0,.int .i64 0,.int .i64 0,.int .i64 0,.slice none 0 0,.slice none 0 0,.int .i64 0,.slice none 0 0,.slice none 0 0] 30)).alloc (.cells #[.slice none 0 0,.slice none 0 0,.slice none 0 0,.int .i64 0,.int .i64 0,.int .i64 0,.slice none 0 0,.slice none 0 0,.int .i64 0,.slice none 0 0,.slice none 0 0] 30)) (.cells #[.slice none 0 0] 24)
   rw [show ((w.alloc (.cells #[.slice none 0 0,.slice none 0 0,.slice none 0 0,.int .i64 0,.int .i64 0,.int .i64 0,.slice none 0 0,.slice none 0 0,.int .i64 0,.slice none 0 0,.slice none 0 0] 30)).alloc (.cells #[.slice none 0 0,.slice none 0 0,.slice none 0 0,.int .i64 0,.int .i64 0,.int .i64 0,.slice none 0 0,.slice none 0 0,.int .i64 0,.slice none 0 0,.slice none 0 0] 30)).heap.size = w.heap.size + 2 by simp] at this
   rw [<- hC,hv3]
   exact this
  have HOV : Hid (Calls Tryz.prog 10 #[.string s] v3 fun r w' => r = .returned (.pointer (some ⟨P,0,none⟩)) /\ CS w' P s s.size 0 /\ Below P v3 w') := by
   unfold Hid
   rw [<- hP]
   exact xjS s hsz v3
  have HD3 : Hid (DSt v3 R M C 0 DrV.zero) := ⟨modZero,none,0,[],mM,mC,(xsR v3 R).mod,LR.nil _ _ _ _ _ _,rfl,⟨fun _ => ⟨rfl,rfl,rfl⟩,fun _ => ⟨rfl,rfl,rfl⟩,fun _ => ⟨rfl,rfl,rfl⟩,fun _ => rfl,fun _ => ⟨rfl,rfl⟩,fun _ => ⟨rfl,rfl,rfl⟩,fun _ => ⟨rfl,rfl,rfl⟩,fun _ => ⟨rfl,rfl,rfl⟩,fun _ => ⟨rfl,rfl,rfl⟩,fun _ => ⟨rfl,rfl,rfl⟩⟩,fun g g2 _ e _ _ => by cases e⟩
  have HR3 : Hid (MX v3 R (mcA modZero)) := mR
  have HB3 : Hid (Below R w v3) := bw3
  have HMX : Hid (MaxIn w) := hMx
  have HRE : Hid (w.heap.size = R) := hR
  have HVP : Hid (v3.heap.size = P) := hP
  have HME : Hid (w.heap.size + 1 = M) := hM
  have HCE : Hid (M + 1 = C) := by unfold Hid; omega
  have hRP : R ≠ P := by omega
  have hMR : M ≠ R := by omega
  have hCR : C ≠ R := by omega
  have hM4 : 4 <= M := by omega
  have hC4 : 4 <= C := by omega
  have hP4 : 4 <= P := by omega
  have hR4 : 4 <= R := by omega
  have hRM : R <= M := by omega
  have hRC : R <= C := by omega
  have hRPle : R <= P := by omega
  have HNS : Hid (l = xaX s) := hl
  have HMS : Hid (s.size <= maxLen) := hs
  rw [<- hl] at HMOD ⊢
  rw [hR]
  clear hv3 hR hM hC hP s3 bw3 b23 mR mM mC hMx hl hs hPw
  go_enter Tryz.func5,Tryz.ntmps5
  go_wp2_with fail
  rw [<- HV3.out]
  refine HOV.out.mono ?_
  rintro r v4 ⟨rfl,h4,b4⟩
  rw [HME.out,HCE.out,HRE.out]
  have hP3 : P <= v4.heap.size := by have := xaU h4; omega
  have b4' : Below v3.heap.size v3 v4 := (by rw [HVP.out]; exact b4)
  have HL4 : Hid (CL v4 P l s.size 0) := ⟨s,HNS.out.symm,HMS.out,h4⟩
  have HD4 : Hid (DSt v4 R M C 0 DrV.zero) := HD3.out.below b4'
  have HR4 : Hid (MX v4 R (mcA modZero)) := HR3.out.kp (Kp.below (fun _ => true) b4') rfl
  have HB4 : Hid (Below R w v4) := HB3.out.trans (b4.mono hRPle)
  clear h4 b4 b4' HOV HD3 HR3 HB3 HV3 HMS
  obtain ⟨nn,hnn⟩ : ∃ nn : Int,nn = (s.size : Int) := ⟨_,rfl⟩
  rw [<- hnn] at HL4
  clear hnn
  go_wp2
  go_loopw [18] (fun iv wr => ∃ k : Nat,∃ li : List Int,∃ ai : Int,iv = .int .i64 (k : Int) /\ k <= 8 /\ Hid (xcW head8 l 0 = xcW (head8.drop k) li ai) /\ Hid (CL wr P li nn ai) /\ Hid (Chg P v4 wr)) (fun iv _ => 8 - (intOf iv).toNat)
  case atStart => exact ⟨0,l,0,rfl,by omega,rfl,HL4,Chg.refl _ _⟩
  case round =>
   obtain ⟨k,li,ai,rfl,hk,HF,HL,HC⟩ := hrel
   by_cases hlt : k < 8
   ·have hk8 : k = 0 \/ k = 1 \/ k = 2 \/ k = 3 \/ k = 4 \/ k = 5 \/ k = 6 \/ k = 7 := by omega
    rcases hk8 with rfl | rfl | rfl | rfl | rfl | rfl | rfl | rfl
    ·have HK := kZz (xeU P 0 4 li nn ai wr HL.out)
     have hmg : wrap64 (((⟨#[0,97,115,109,1,0,0,0]⟩ : ByteArray)[0]'(by decide)).toNat : Int) = 0 := by decide +kernel
     go_wp2_with fail
     (try rw [hmg])
     refine HK.out.mono ?_
     rintro r w1 ⟨rfl,h1,c1⟩
     clear hmg
     have HF1 : Hid (xcW head8 l 0 = xcW (head8.drop 1) (xaA 0 4 li ai).1 (xaA 0 4 li ai).2) := by unfold Hid; rw [HF.out,show head8.drop 0 = 0 :: head8.drop 1 from rfl,xcX]
     have HL1 : Hid (CL w1 P (xaA 0 4 li ai).1 nn (xaA 0 4 li ai).2) := h1
     have HC1 : Hid (Chg P v4 w1) := HC.out.trans c1
     clear h1 c1 HK HF HL HC
     go_wp2
     go_roundw
     case rel => exact ⟨1,_,_,rfl,by omega,HF1,HL1,HC1⟩
     case measure => simp [intOf]
    ·have HK := kZz (xeU P 97 4 li nn ai wr HL.out)
     have hmg : wrap64 (((⟨#[0,97,115,109,1,0,0,0]⟩ : ByteArray)[1]'(by decide)).toNat : Int) = 97 := by decide +kernel
     go_wp2_with fail
     (try rw [hmg])
     refine HK.out.mono ?_
     rintro r w1 ⟨rfl,h1,c1⟩
     clear hmg
     have HF1 : Hid (xcW head8 l 0 = xcW (head8.drop 2) (xaA 97 4 li ai).1 (xaA 97 4 li ai).2) := by unfold Hid; rw [HF.out,show head8.drop 1 = 97 :: head8.drop 2 from rfl,xcX]
     have HL1 : Hid (CL w1 P (xaA 97 4 li ai).1 nn (xaA 97 4 li ai).2) := h1
     have HC1 : Hid (Chg P v4 w1) := HC.out.trans c1
     clear h1 c1 HK HF HL HC
     go_wp2
     go_roundw
     case rel => exact ⟨2,_,_,rfl,by omega,HF1,HL1,HC1⟩
     case measure => simp [intOf]
    ·have HK := kZz (xeU P 115 4 li nn ai wr HL.out)
     have hmg : wrap64 (((⟨#[0,97,115,109,1,0,0,0]⟩ : ByteArray)[2]'(by decide)).toNat : Int) = 115 := by decide +kernel
     go_wp2_with fail
     (try rw [hmg])
     refine HK.out.mono ?_
     rintro r w1 ⟨rfl,h1,c1⟩
     clear hmg
     have HF1 : Hid (xcW head8 l 0 = xcW (head8.drop 3) (xaA 115 4 li ai).1 (xaA 115 4 li ai).2) := by unfold Hid; rw [HF.out,show head8.drop 2 = 115 :: head8.drop 3 from rfl,xcX]
     have HL1 : Hid (CL w1 P (xaA 115 4 li ai).1 nn (xaA 115 4 li ai).2) := h1
     have HC1 : Hid (Chg P v4 w1) := HC.out.trans c1
     clear h1 c1 HK HF HL HC
     go_wp2
     go_roundw
     case rel => exact ⟨3,_,_,rfl,by omega,HF1,HL1,HC1⟩
     case measure => simp [intOf]
    ·have HK := kZz (xeU P 109 4 li nn ai wr HL.out)
     have hmg : wrap64 (((⟨#[0,97,115,109,1,0,0,0]⟩ : ByteArray)[3]'(by decide)).toNat : Int) = 109 := by decide +kernel
     go_wp2_with fail
     (try rw [hmg])
     refine HK.out.mono ?_
     rintro r w1 ⟨rfl,h1,c1⟩
     clear hmg
     have HF1 : Hid (xcW head8 l 0 = xcW (head8.drop 4) (xaA 109 4 li ai).1 (xaA 109 4 li ai).2) := by unfold Hid; rw [HF.out,show head8.drop 3 = 109 :: head8.drop 4 from rfl,xcX]
     have HL1 : Hid (CL w1 P (xaA 109 4 li ai).1 nn (xaA 109 4 li ai).2) := h1
     have HC1 : Hid (Chg P v4 w1) := HC.out.trans c1
     clear h1 c1 HK HF HL HC
     go_wp2
     go_roundw
     case rel => exact ⟨4,_,_,rfl,by omega,HF1,HL1,HC1⟩
     case measure => simp [intOf]
    ·have HK := kZz (xeU P 1 4 li nn ai wr HL.out)
     have hmg : wrap64 (((⟨#[0,97,115,109,1,0,0,0]⟩ : ByteArray)[4]'(by decide)).toNat : Int) = 1 := by decide +kernel
     go_wp2_with fail
     (try rw [hmg])
     refine HK.out.mono ?_
     rintro r w1 ⟨rfl,h1,c1⟩
     clear hmg
     have HF1 : Hid (xcW head8 l 0 = xcW (head8.drop 5) (xaA 1 4 li ai).1 (xaA 1 4 li ai).2) := by unfold Hid; rw [HF.out,show head8.drop 4 = 1 :: head8.drop 5 from rfl,xcX]
     have HL1 : Hid (CL w1 P (xaA 1 4 li ai).1 nn (xaA 1 4 li ai).2) := h1
     have HC1 : Hid (Chg P v4 w1) := HC.out.trans c1
     clear h1 c1 HK HF HL HC
     go_wp2
     go_roundw
     case rel => exact ⟨5,_,_,rfl,by omega,HF1,HL1,HC1⟩
     case measure => simp [intOf]
    ·have HK := kZz (xeU P 0 4 li nn ai wr HL.out)
     have hmg : wrap64 (((⟨#[0,97,115,109,1,0,0,0]⟩ : ByteArray)[5]'(by decide)).toNat : Int) = 0 := by decide +kernel
     go_wp2_with fail
     (try rw [hmg])
     refine HK.out.mono ?_
     rintro r w1 ⟨rfl,h1,c1⟩
     clear hmg
     have HF1 : Hid (xcW head8 l 0 = xcW (head8.drop 6) (xaA 0 4 li ai).1 (xaA 0 4 li ai).2) := by unfold Hid; rw [HF.out,show head8.drop 5 = 0 :: head8.drop 6 from rfl,xcX]
     have HL1 : Hid (CL w1 P (xaA 0 4 li ai).1 nn (xaA 0 4 li ai).2) := h1
     have HC1 : Hid (Chg P v4 w1) := HC.out.trans c1
     clear h1 c1 HK HF HL HC
     go_wp2
     go_roundw
     case rel => exact ⟨6,_,_,rfl,by omega,HF1,HL1,HC1⟩
     case measure => simp [intOf]
    ·have HK := kZz (xeU P 0 4 li nn ai wr HL.out)
     have hmg : wrap64 (((⟨#[0,97,115,109,1,0,0,0]⟩ : ByteArray)[6]'(by decide)).toNat : Int) = 0 := by decide +kernel
     go_wp2_with fail
     (try rw [hmg])
     refine HK.out.mono ?_
     rintro r w1 ⟨rfl,h1,c1⟩
     clear hmg
     have HF1 : Hid (xcW head8 l 0 = xcW (head8.drop 7) (xaA 0 4 li ai).1 (xaA 0 4 li ai).2) := by unfold Hid; rw [HF.out,show head8.drop 6 = 0 :: head8.drop 7 from rfl,xcX]
     have HL1 : Hid (CL w1 P (xaA 0 4 li ai).1 nn (xaA 0 4 li ai).2) := h1
     have HC1 : Hid (Chg P v4 w1) := HC.out.trans c1
     clear h1 c1 HK HF HL HC
     go_wp2
     go_roundw
     case rel => exact ⟨7,_,_,rfl,by omega,HF1,HL1,HC1⟩
     case measure => simp [intOf]
    ·have HK := kZz (xeU P 0 4 li nn ai wr HL.out)
     have hmg : wrap64 (((⟨#[0,97,115,109,1,0,0,0]⟩ : ByteArray)[7]'(by decide)).toNat : Int) = 0 := by decide +kernel
     go_wp2_with fail
     (try rw [hmg])
     refine HK.out.mono ?_
     rintro r w1 ⟨rfl,h1,c1⟩
     clear hmg
     have HF1 : Hid (xcW head8 l 0 = xcW (head8.drop 8) (xaA 0 4 li ai).1 (xaA 0 4 li ai).2) := by unfold Hid; rw [HF.out,show head8.drop 7 = 0 :: head8.drop 8 from rfl,xcX]
     have HL1 : Hid (CL w1 P (xaA 0 4 li ai).1 nn (xaA 0 4 li ai).2) := h1
     have HC1 : Hid (Chg P v4 w1) := HC.out.trans c1
     clear h1 c1 HK HF HL HC
     go_wp2
     go_roundw
     case rel => exact ⟨8,_,_,rfl,by omega,HF1,HL1,HC1⟩
     case measure => simp [intOf]
   ·obtain rfl : k = 8 := by omega
    have HF8 : Hid (xcW head8 l 0 = ((),li,ai)) := by unfold Hid; rw [HF.out]; rfl
    have HD5 : Hid (DSt wr R M C 0 DrV.zero) := HD4.out.chg HL4.out HC.out
    have HR5 : Hid (MX wr R (mcA modZero)) := HR4.out.chg HC.out hRP
    have HB5 : Hid (Below R w wr) := HB4.out.trans (HC.out.below hRPle (Nat.le_trans (by rw [HRE.out]; exact Nat.le_refl _) HB4.out.size))
    have HL5 : Hid (CL wr P li nn ai) := HL.out
    have hBl : Bts l := HL4.out.byte
    have HT0 : Hid (ai = 0 -> rM l = xmP (rSecs 0 DrV.zero li)) := fun h0 => by
     have h1 := (xmR head8).got hBl (by rw [HF8.out]; exact h0)
     rw [HF8.out] at h1
     exact ycB h1
    have HE0 : Hid (ai ≠ 0 -> rM l = .error ai) := fun h0 => by
     have h1 := (xmR head8).bad' hBl (by rw [HF8.out]; exact h0)
     rw [HF8.out] at h1
     exact xzG h1
    clear HF HF8 HL HC HD4 HR4 HB4 HL4 hBl
    go_wp2
    go_loopw [8] (fun lv wr => ∃ last : Nat,∃ v : DrV,∃ lj : List Int,∃ aj : Int,lv = .int .i64 (last : Int) /\ (aj = 0 -> last <= 11) /\ last < 256 /\ Hid (CL wr P lj nn aj) /\ Hid (JSt wr M C) /\ Hid (MX wr R (mcA modZero)) /\ Hid (Below R w wr) /\ Hid (aj = 0 -> rM l = xmP (rSecs last v lj) /\ DSt wr R M C last v) /\ Hid (aj ≠ 0 -> rM l = .error aj)) (fun lv wr => yhF P lv wr)
    case atStart => exact ⟨0,DrV.zero,li,ai,rfl,fun _ => by omega,by omega,HL5,HD5.out.junk,HR5,HB5,fun h0 => ⟨HT0.out h0,HD5.out⟩,HE0⟩
    case round =>
     obtain ⟨last,v,lj,aj,rfl,hla,hlb,HL,HJ,HR,HB,HT,HE⟩ := hrel
     clear HL5 HD5 HR5 HB5 HT0 HE0
     have hRw : R <= wr.heap.size := Nat.le_trans (by rw [HRE.out]; exact Nat.le_refl _) HB.out.size
     have HMR : Hid (MaxIn wr) := HMX.out.b4 (HB.out.mono hR4)
     have herr := xjP HL.out
     have HER := kZz herr
     clear herr
     obtain ⟨S,hS,hSm,hSc⟩ := HL.out
     obtain ⟨z0,z1,z2⟩ := hSc.cell
     have HSN : Hid (xaX S = lj) := hS
     clear hS hSm hSc z1
     by_cases h0 : aj = 0
     ·subst h0
      cases lj with
      | nil =>
       have hem : S = ⟨#[]⟩ := by
        obtain ⟨D0⟩ := S
        congr 1
        apply Array.eq_empty_of_size_eq_zero
        have := congrArg List.length HSN.out
        rw [xaY] at this
        exact this
       subst hem
       have HT2 := (HT.out rfl).1
       rw [xzM] at HT2
       obtain ⟨d,o,cap,K,hM,hC,hG,hK,hv,hF,hR2⟩ := (HT.out rfl).2
       have y2 : wr.cell? ⟨M,2,none⟩ = some (.slice d.oF d.funcs.length d.cF) := by rw [hM.cell 2]; rfl
       have yc := hC.cell
       have HM6 : Hid (MX wr M (mcA d)) := hM
       have HG6 : Hid (ModG wr R d) := hG
       have HK6 : Hid (LR wr R 55 3 FunD.cells FunG o K.length cap K) := hK
       have HV6 : Hid (xcD d K = v) := hv
       have HR26 : Hid (yfG d o K) := hR2
       have HT6 : Hid (rM l = xmP (.ok v)) := HT2
       have hk1 := (hK.capm).1
       have hk2 := (hK.capm).2
       have hf1 := (hG.funcs.capm).1
       have hf2 := (hG.funcs.capm).2
       unfold maxLen at hk2 hf2
       have HCB : Hid (CB wr C (.slice o K.length cap)) := hC
       clear hM hC hG hK hv hF hR2 HT2 HT
       go_wp2_with fail
       refine (HL.out.say _ _).mono ?_
       rintro r w6 ⟨rfl,h6,c6⟩
       have hMP : M ≠ P := HL.out.apart HM6.out (by decide)
       have HM7 : Hid (MX w6 M (mcA d)) := HM6.out.chg c6 hMP
       have HR7 : Hid (MX w6 R (mcA modZero)) := HR.out.chg c6 hRP
       have HB7 : Hid (Below R w w6) := HB.out.trans (c6.below hRPle hRw)
       have q6 : Kp (fun t => t != 45) wr w6 := Kp.cur HL.out c6 _ (by decide)
       have HG7 : Hid (ModG w6 R d) := HG6.out.kpS q6 (by decide)
       have HK7 : Hid (LR w6 R 55 3 FunD.cells FunG o K.length cap K) := HK6.out.kp q6 (by decide) (fun d hd => hd.kp q6 (by decide) (by decide) (by decide))
       have hC7 : CB w6 C (.slice o K.length cap) := by
        have : CB wr C (.slice o K.length cap) := HCB.out
        exact this.kp q6 (by decide)
       have yc7 := hC7.cell
       by_cases hne : K.length = d.funcs.length
       ·have HL7 : Hid (CL w6 P [] nn 0) := by
         have e1 : (((K.length : Nat) : Int) != ((d.funcs.length : Nat) : Int)) = false := by rw [hne]; simp
         first
          | (rw [e1] at h6; exact h6)
          | (simp only [hne,bne_self_eq_false,Bool.false_eq_true,if_false] at h6; exact h6)
        obtain ⟨n,hn⟩ : ∃ n,n = K.length := ⟨_,rfl⟩
        have HKL : Hid (K.length = n) := hn.symm
        have HFL : Hid (d.funcs.length = n) := by unfold Hid; rw [hn,hne]
        rw [<- hn] at yc7 hk1
        rw [HKL.out] at HK7
        have HM8 : Hid (rM l = .ok (xcD d K)) := by
         unfold Hid
         rw [HT6.out,HV6.out]
         unfold xmP
         dsimp only
         rw [if_pos]
         rw [<- HV6.out]
         unfold xcD
         dsimp only
         rw [List.length_map,List.length_map,hne]
        obtain ⟨u0,u1,u2⟩ := (HL7.out.choose_spec.2.2).cell
        clear u0 u1 h6 c6 q6 hC7 HM6 HG6 HK6 HR HB HL HJ HCB y2 yc hne hn z0 z2 HV6 HT6
        go_wp2
        go_loopw [83] (fun iv wr => ∃ k : Nat,∃ L : List FunD,iv = .int .i64 (k : Int) /\ k <= n /\ Hid (L.length = n /\ L.map FunD.t = d.funcs.map FunD.t /\ (∀ j,j < k -> (L.map FunD.cod)[j]? = (K.map FunD.cod)[j]?)) /\ Hid (MX wr M (mcA d)) /\ Hid (ModG wr R { d with funcs := L }) /\ Hid (LR wr R 55 3 FunD.cells FunG o n cap K) /\ Hid (MX wr R (mcA modZero)) /\ Hid (Below R w wr)) (fun iv _ => n - (intOf iv).toNat)
        case atStart => exact ⟨0,d.funcs,rfl,by omega,⟨HFL.out,rfl,fun j hj => by omega⟩,HM7,HG7,HK7,HR7,HB7⟩
        case round =>
         obtain ⟨k,L,rfl,hk,HLL,HMr,HGr,HKr,HRr,HBr⟩ := hrel
         clear HM7 HG7 HK7 HR7 HB7 yc7 u2
         by_cases hlt2 : k < n
         ·obtain ⟨g,gcur,hgo,hRg,hgb⟩ : ∃ g cur,d.oF = some ⟨g,0,none⟩ /\ R <= g /\ wr.heap[g]? = some (.cells cur 55 (0,0)) := by
           rcases HGr.out.funcs.typed with h0 | h
           ·have h1 : L.length = n := HLL.out.1
            have h0 : L.length = 0 := h0
            omega
           ·exact h
          obtain ⟨g2,cur2,hgo2,hRg2,hgb2⟩ : ∃ g cur,o = some ⟨g,0,none⟩ /\ R <= g /\ wr.heap[g]? = some (.cells cur 55 (0,0)) := by
           rcases HKr.out.typed with h0 | h
           ·omega
           ·exact h
          have hgg : g ≠ g2 := by
           have h1 := HR26.out ⟨g,0,none⟩ ⟨g2,0,none⟩ hgo hgo2 (by rw [HFL.out]; omega) (by rw [HKL.out]; omega)
           exact h1
          have hkL : k < L.length := by rw [HLL.out.1]; exact hlt2
          have hkK : k < K.length := by rw [HKL.out]; exact hlt2
          have hcK : ∀ r,r < 3 -> wr.cell? ⟨g2,k * 3 + r,none⟩ = (FunD.cells K[k])[r]? := fun r hr => by
           have ho := HKr.out.own
           rw [hgo2] at ho
           rw [ho.cellAt (k * 3 + r) (by omega)]
           exact xiG FunD.cells 3 (fun _ => rfl) K k r hkK hr
          have hcL : ∀ r,r < 3 -> wr.cell? ⟨g,k * 3 + r,none⟩ = (FunD.cells L[k])[r]? := fun r hr => by
           have ho : wr.ownsRow R 55 3 (.slice d.oF L.length d.cF) L.length (L.flatMap FunD.cells) := HGr.out.funcs.own
           rw [hgo] at ho
           rw [ho.cellAt (k * 3 + r) (by omega)]
           exact xiG FunD.cells 3 (fun _ => rfl) L k r hkL hr
          obtain ⟨x,hx⟩ : ∃ x,x = K[k] := ⟨_,rfl⟩
          have HXK : Hid (K[k]? = some x) := by unfold Hid; rw [hx,List.getElem?_eq_getElem hkK]
          have HXG : Hid (FunG wr x) := by unfold Hid; rw [hx]; exact HKr.out.ok _ (List.getElem_mem hkK)
          rw [<- hx] at hcK
          obtain ⟨xt,⟨lo,ln,lc,lx⟩,bo,bc,bb⟩ := x
          have k0 : wr.cell? ⟨g2,k * 3,none⟩ = some (.int .i64 xt) := hcK 0 (by omega)
          have k1 : wr.cell? ⟨g2,k * 3 + 1,none⟩ = some (.slice lo ln lc) := hcK 1 (by omega)
          have k2 : wr.cell? ⟨g2,k * 3 + 2,none⟩ = some (.slice bo bb.length bc) := hcK 2 (by omega)
          obtain ⟨F,hF⟩ : ∃ F,F = wr.heap.size := ⟨_,rfl⟩
          obtain ⟨v5,hv5⟩ : ∃ v,v = wr.alloc (.cells #[.int .i64 xt,.slice lo ln lc,.slice bo bb.length bc] 55) := ⟨_,rfl⟩
          have HV5 : Hid (v5 = wr.alloc (.cells #[.int .i64 xt,.slice lo ln lc,.slice bo bb.length bc] 55)) := hv5
          have HFE : Hid (F = wr.heap.size) := hF
          have b5 : Below wr.heap.size wr v5 := by rw [hv5]; exact (Below.refl _ _).alloc (Nat.le_refl _) _
          have hx5 : X3 55 v5 F (.int .i64 xt) (.slice lo ln lc) (.slice bo bb.length bc) := by rw [hv5,hF]; exact xaZ _ _
          have HX5 := kZz hx5
          have hgF : g ≠ F := by have := xaU hgb; omega
          have q5 : Kp (fun _ => true) wr v5 := Kp.below _ b5
          have HM5 : Hid (MX v5 M (mcA d)) := HMr.out.kp q5 rfl
          have HG5 : Hid (ModG v5 R { d with funcs := L }) := HGr.out.kpS q5 rfl
          have HK5 : Hid (LR v5 R 55 3 FunD.cells FunG o n cap K) := HKr.out.kp q5 rfl (fun d hd => hd.kp q5 rfl rfl rfl)
          have HR5 : Hid (MX v5 R (mcA modZero)) := HRr.out.kp q5 rfl
          have HB5 : Hid (Below R w v5) := HBr.out.trans (b5.mono (Nat.le_trans (by rw [HRE.out]; exact Nat.le_refl _) HBr.out.size))
          have HXG5 : Hid (FunG v5 ⟨xt,⟨lo,ln,lc,lx⟩,bo,bc,bb⟩) := HXG.out.kp q5 rfl rfl rfl
          have hg5 : v5.heap[g]? = some (.cells gcur 55 (0,0)) := by rw [b5.block g (xaU hgb)]; exact hgb
          have HGB := kZz hg5
          have w1 : v5.cell? ⟨g,k * 3 + 1,none⟩ = (FunD.cells L[k])[1]? := by rw [b5.cell (p := ⟨g,k * 3 + 1,none⟩) (xaU hgb)]; exact hcL 1 (by omega)
          have w2 : v5.cell? ⟨g,k * 3 + 2,none⟩ = (FunD.cells L[k])[2]? := by rw [b5.cell (p := ⟨g,k * 3 + 2,none⟩) (xaU hgb)]; exact hcL 2 (by omega)
          have HW1 : Hid (v5.cell? ⟨g,k * 3 + 1,none⟩ = some (L[k]).l.v) := w1
          have HW2 : Hid (v5.cell? ⟨g,k * 3 + 2,none⟩ = some (.slice (L[k]).o (L[k]).b.length (L[k]).cap)) := w2
          have hk0 : (0 : Int) <= (k : Int) := by omega
          have hkn : (k : Int) < (n : Int) := by omega
          have HGO : Hid (d.oF = some ⟨g,0,none⟩) := hgo
          have HGO2 : Hid (o = some ⟨g2,0,none⟩) := hgo2
          clear hcK hcL hx hF hv5 b5 q5 hg5 w1 w2 HMr HGr HKr HRr HBr hgb2 HXG
          rw [hgo2]
          go_wp2_with fail
          rw [<- HV5.out,<- HFE.out]
          refine xaC (S := fun w' => w'.cell? ⟨M,2,none⟩ = some (.slice (some ⟨g,0,none⟩) n d.cF) /\ w'.cell? ⟨F,1,none⟩ = some (.slice lo ln lc) /\ w'.cell? ⟨F,2,none⟩ = some (.slice bo bb.length bc)) (z := 15) (by kernel_rfl) ?_
          obtain ⟨y5,hy5⟩ : ∃ y,y = World.drew v5 := ⟨_,rfl⟩
          have qd : Kp (fun _ => true) v5 y5 := by rw [hy5]; exact ⟨Nat.le_refl _,fun _ _ _ _ _ _ => rfl⟩
          have HMy : Hid (MX y5 M (mcA d)) := HM5.out.kp qd rfl
          have HXy : Hid (X3 55 y5 F (.int .i64 xt) (.slice lo ln lc) (.slice bo bb.length bc)) := HX5.out.kp qd rfl
          have HGy : Hid (ModG y5 R { d with funcs := L }) := HG5.out.kpS qd rfl
          have HKy : Hid (LR y5 R 55 3 FunD.cells FunG o n cap K) := HK5.out.kp qd rfl (fun d hd => hd.kp qd rfl rfl rfl)
          have HRy : Hid (MX y5 R (mcA modZero)) := HR5.out.kp qd rfl
          have HBy : Hid (Below R w y5) := by rw [hy5]; exact yaD HB5.out
          have HXGy : Hid (FunG y5 ⟨xt,⟨lo,ln,lc,lx⟩,bo,bc,bb⟩) := HXG5.out.kp qd rfl rfl rfl
          have hgy : y5.heap[g]? = some (.cells gcur 55 (0,0)) := by rw [qd.blk _ _ _ _ HGB.out rfl]; exact HGB.out
          have HGYB := kZz hgy
          have HM2 : Hid (∀ W : World,MX W M (mcA d) -> W.cell? ⟨M,2,none⟩ = some (.slice (some ⟨g,0,none⟩) n d.cF)) := fun W h => by
           rw [h.cell 2,<- HGO.out,<- HFL.out]
           rfl
          have w1 : y5.cell? ⟨g,k * 3 + 1,none⟩ = some (L[k]).l.v := by rw [hy5]; exact HW1.out
          have w2 : y5.cell? ⟨g,k * 3 + 2,none⟩ = some (.slice (L[k]).o (L[k]).b.length (L[k]).cap) := by rw [hy5]; exact HW2.out
          have HW2y := kZz w2
          have ff1 : y5.frozen? ⟨g,k * 3 + 1,none⟩ = false := by simp [World.frozen?,hgy]
          obtain ⟨p1,hp1⟩ : ∃ v,v = (L[k]).l.v := ⟨_,rfl⟩
          rw [<- hp1] at w1
          have hHeld : (fun w' => w'.cell? ⟨M,2,none⟩ = some (.slice (some ⟨g,0,none⟩) n d.cF) /\ w'.cell? ⟨F,1,none⟩ = some (.slice lo ln lc) /\ w'.cell? ⟨F,2,none⟩ = some (.slice bo bb.length bc)) y5 := ⟨HM2.out _ HMy.out,HXy.out.cell.2.1,HXy.out.cell.2.2⟩
          obtain ⟨y6,hy6⟩ : ∃ y,y = y5.setCell ⟨g,k * 3 + 1,none⟩ (.slice lo ln lc) := ⟨_,rfl⟩
          have HY6 : Hid (y6 = y5.setCell ⟨g,k * 3 + 1,none⟩ (.slice lo ln lc)) := hy6
          have hc6 : Chg g y5 y6 := by rw [hy6]; exact Chg.set _ _ _ _
          have hgM : M ≠ g := by
           intro e
           have h1 := HMy.out
           unfold MX at h1
           rw [e,hgy] at h1
           simp at h1
          have HX6 : Hid (X3 55 y6 F (.int .i64 xt) (.slice lo ln lc) (.slice bo bb.length bc)) := HXy.out.chg hc6 hgF.symm
          have HM6 : Hid (MX y6 M (mcA d)) := HMy.out.chg hc6 hgM
          have HS6 : Hid ((fun w' => w'.cell? ⟨M,2,none⟩ = some (.slice (some ⟨g,0,none⟩) n d.cF) /\ w'.cell? ⟨F,1,none⟩ = some (.slice lo ln lc) /\ w'.cell? ⟨F,2,none⟩ = some (.slice bo bb.length bc)) y6) := ⟨HM2.out _ HM6.out,HX6.out.cell.2.1,HX6.out.cell.2.2⟩
          have HC6 : Hid (Chg g y5 y6) := hc6
          have v2 : y6.cell? ⟨g,k * 3 + 2,none⟩ = some (.slice (L[k]).o (L[k]).b.length (L[k]).cap) := by
           rw [hy6]
           exact (World.cell?_setCell_other _ _ _ _ (by simp)).trans HW2y.out
          have ff2 : y6.frozen? ⟨g,k * 3 + 2,none⟩ = false := by
           rw [hy6]
           simp [World.frozen?,World.setCell,Array.getElem?_modify,hgy]
          have HV2 := kZz v2
          have HFF2 := kZz ff2
          rw [<- hy5]
          clear hy5 qd hgy w2 hy6 hc6 v2 ff2 hp1 HM5 HX5 HG5 HK5 HR5 HB5 HXG5 HGB HW1 HW2
          refine tk (i := 0) (h := ?_)
          refine ld (i := 1) [10,11,12,13,14,15] (h := ?_)
          refine tk (i := 2) (h := ?_)
          refine tk (i := 3) (h := ?_)
          refine ld (i := 4) [10,11,12,13,14,15] (h := ?_)
          refine tk (i := 5) (h := ?_)
          refine tk (i := 6) (h := ?_)
          refine ld (i := 7) [10,11,12,13,14,15] (h := ?_)
          refine tk (i := 8) (h := ?_)
          refine ld (i := 9) [13,14,15] (h := ?_)
          refine tk (i := 10) (h := ?_)
          refine tk (i := 11) (h := ?_)
          refine xbT (i := 12) rfl (by kernel_rfl) rfl (fun K' R' hK => ?_)
          go_simp
          rw [<- HY6.out]
          refine hK.out _ _ HS6.out (fun hHeld => xaB ?_)
          clear hK
          have v2 := HV2.out
          have ff2 := HFF2.out
          refine tk (i := 13) (h := ?_)
          refine tk (i := 14) (h := ?_)
          refine xbH rfl (by kernel_rfl) (by kernel_rfl) (by kernel_rfl) rfl (fun K' R' hK => ?_)
          go_simp
          refine hK.out _ _ ?_
          clear hK hHeld
          obtain ⟨y7,hy7⟩ : ∃ y,y = y6.setCell ⟨g,k * 3 + 2,none⟩ (.slice bo bb.length bc) := ⟨_,rfl⟩
          have hc7 : Chg g y5 y7 := by rw [hy7]; exact HC6.out.trans (Chg.set _ _ _ _)
          have HY7 : Hid (y7 = y6.setCell ⟨g,k * 3 + 2,none⟩ (.slice bo bb.length bc)) := hy7
          have q7 : Kp (fun t => t != 55) y5 y7 := Kp.chg HGYB.out hc7 _ (by decide)
          have HM7 : Hid (MX y7 M (mcA d)) := HMy.out.kp q7 (by decide)
          have HR7 : Hid (MX y7 R (mcA modZero)) := HRy.out.kp q7 (by decide)
          have HB7 : Hid (Below R w y7) := HBy.out.trans (hc7.below hRg (Nat.le_trans (by rw [HRE.out]; exact Nat.le_refl _) HBy.out.size))
          have HK7 : Hid (LR y7 R 55 3 FunD.cells FunG o n cap K) := HKy.out.other hc7 (fun a ha => by
           rw [HGO2.out] at ha
           cases ha
           exact fun e => hgg e.symm) (fun d hd => hd.kp q7 (by decide) (by decide) (by decide))
          have HLR7 : Hid (LR y7 R 55 3 FunD.cells FunG d.oF (L.set k ⟨(L[k]).t,⟨lo,ln,lc,lx⟩,bo,bc,bb⟩).length d.cF (L.set k ⟨(L[k]).t,⟨lo,ln,lc,lx⟩,bo,bc,bb⟩)) := by
           have hL : LR y5 R 55 3 FunD.cells FunG d.oF L.length d.cF L := HGy.out.funcs
           rw [HGO.out] at hL
           have := hL.setLB hkL ⟨lo,ln,lc,lx⟩ bo bc bb ⟨(hL.ok _ (List.getElem_mem hkL)).1,HXGy.out.2.1,HXGy.out.2.2⟩
           unfold Hid
           rw [HGO.out,HY7.out,HY6.out,List.length_set]
           exact this
          have HG7 : Hid (ModG y7 R { d with funcs := L.set k ⟨(L[k]).t,⟨lo,ln,lc,lx⟩,bo,bc,bb⟩ }) := by
           have h := HGy.out
           exact ⟨h.types.kp q7 (by decide) (fun _ hd => hd.kp q7 (by decide)),h.imports.kp q7 (by decide) (fun _ hd => hd),HLR7.out,h.globals.kp q7 (by decide) (fun _ hd => hd),h.exports.kp q7 (by decide) (fun _ hd => hd),h.elems.kp q7 (by decide) (fun _ hd => hd.kp q7 (by decide)),h.data.kp q7 (by decide) (fun _ hd => hd),LR.nil _ _ _ _ _ _,h.table,h.pages,h.most,h.start⟩
          have HL7 : Hid ((L.set k ⟨(L[k]).t,⟨lo,ln,lc,lx⟩,bo,bc,bb⟩).length = n /\ (L.set k ⟨(L[k]).t,⟨lo,ln,lc,lx⟩,bo,bc,bb⟩).map FunD.t = d.funcs.map FunD.t /\ (∀ j,j < k + 1 -> ((L.set k ⟨(L[k]).t,⟨lo,ln,lc,lx⟩,bo,bc,bb⟩).map FunD.cod)[j]? = (K.map FunD.cod)[j]?)) := by
           refine ⟨by rw [List.length_set]; exact HLL.out.1,?_,fun j hj => ?_⟩
           ·rw [List.map_set,<- HLL.out.2.1]
            apply List.ext_getElem?
            intro i
            rw [List.getElem?_set]
            split
            ·rename_i e
             subst e
             rw [List.length_map,if_pos hkL,List.getElem?_map,List.getElem?_eq_getElem hkL]
             rfl
            ·rfl
           ·rw [List.map_set,List.getElem?_set]
            split
            ·rename_i e
             subst e
             rw [List.length_map,if_pos hkL,List.getElem?_map,HXK.out]
             rfl
            ·exact HLL.out.2.2 j (by omega)
          clear hgo hgo2 hc7 q7 hy7 HMy HXy HGy HKy HRy HBy HXGy HLR7 HM6 HX6 HS6 HC6
          rw [<- HY7.out]
          go_wp2
          go_roundw
          case rel =>
           have h1 := HL7.out
           have h2 := HK7.out
           rw [HGO2.out] at h2
           refine ⟨_,_,.int .i64 ((k : Int) + 1),⟨k + 1,by go_num,by omega,_,⟨h1.1,h1.2.1,fun j hj => ?_⟩,HG7,h2⟩,rfl,rfl,HGO.out.symm,rfl⟩
           have h3 := h1.2.2 j hj
           rw [List.getElem?_map,List.getElem?_map] at h3
           exact h3
          case measure => simp [intOf]; omega
         ·have hkn : k = n := by omega
          subst hkn
          obtain ⟨C',hC'⟩ : ∃ C : Array Value,C = mcA { d with funcs := L } := ⟨_,rfl⟩
          have hmc : mcA d = C' := by
           rw [hC']
           unfold mcA
           dsimp only
           rw [HLL.out.1,HFL.out]
          have HCM : Hid (wr.heap[M]? = some (.cells C' 30 (0,0))) := by
           have h1 := HMr.out
           unfold MX at h1
           rw [hmc] at h1
           exact h1
          have HCS : Hid (C'.size = 11) := by rw [hC']; rfl
          have HC1 : Hid (C'.all (·.oneCell') = true) := by unfold Hid; rw [hC']; simp [mcA,Value.oneCell']
          have HI30 : Hid ((Tryz.prog.info? 30).map (·.size) = some C'.size) := by unfold Hid; rw [HCS.out]; exact xdO
          have HS5 : Hid ((#[.slice none 0 0,.slice none 0 0,.slice none 0 0,.int .i64 0,.int .i64 0,.int .i64 0,.slice none 0 0,.slice none 0 0,.int .i64 0,.slice none 0 0,.slice none 0 0] : Array Value).size = C'.size) := by unfold Hid; rw [HCS.out]; rfl
          have HRr' : Hid (wr.heap[R]? = some (.cells #[.slice none 0 0,.slice none 0 0,.slice none 0 0,.int .i64 0,.int .i64 0,.int .i64 0,.slice none 0 0,.slice none 0 0,.int .i64 0,.slice none 0 0,.slice none 0 0] 30 (0,0))) := HRr.out
          have HCC : Hid (C' = mcA { d with funcs := L }) := hC'
          clear hC' hmc
          go_wp2_with (first | (refine wpList_load_row rfl 30 (.tmp 4) rfl M rfl 30 C' (0,0) _ HCM.out Tryz.underlying30 rfl HI30.out ?_) | (refine wpList_store_row rfl 30 (.tmp 2) (.tmp 103) rfl R C' rfl rfl 30 _ HRr'.out HI30.out HS5.out HC1.out ?_))
          have hrow : (wr.setRow R C').heap[R]? = some (.cells C' 30 (0,0)) := setRow_heap wr R _ C' _ _ HRr'.out
          have hcq : Chg R wr (wr.setRow R C') := ⟨rfl,rfl,rfl,by simp [World.setRow],fun j _ hj => setRow_other wr R j C' hj⟩
          have q : Kp ycI wr (wr.setRow R C') := Kp.chg HRr'.out hcq _ (by decide)
          refine bodyPost_ret (xeT _ _ R C' 0 rfl rfl hrow HI30.out) rfl ?_
          refine ⟨?_,Or.inr ⟨{ d with funcs := L },C',HCC,?_,rfl,DrG.kpM HGr.out q⟩⟩
          ·rw [HRE.out]
           exact HBr.out.trans (hcq.below (Nat.le_refl _) (Nat.le_trans (by rw [HRE.out]; exact Nat.le_refl _) HBr.out.size))
          ·rw [HMOD.out,HM8.out]
           have e1 : L.map FunD.cod = K.map FunD.cod := by
            apply List.ext_getElem?
            intro j
            rcases Nat.lt_or_ge j k with h | h
            ·exact HLL.out.2.2 j h
            ·rw [List.getElem?_eq_none (by rw [List.length_map,HLL.out.1]; exact h),List.getElem?_eq_none (by rw [List.length_map,HKL.out]; exact h)]
           unfold ModD.val xcD
           dsimp only
           rw [e1,HLL.out.2.1]
       ·have HL7 : Hid (CL w6 P [] nn 4) := by
         have e1 : (((K.length : Nat) : Int) != ((d.funcs.length : Nat) : Int)) = true := by
          rw [bne_iff_ne]
          omega
         have e2 : (K.length != d.funcs.length) = true := by
          rw [bne_iff_ne]
          exact hne
         first
          | (rw [e1] at h6; exact h6)
          | (rw [e2] at h6; exact h6)
        have HM8 : Hid (rM l = .error 4) := by
         unfold Hid
         rw [HT6.out,<- HV6.out]
         unfold xmP xcD
         dsimp only
         rw [if_neg]
         rw [List.length_map,List.length_map]
         exact fun q => hne q.symm
        clear h6 c6 q6 hC7 HM6 HG6 HK6 HR HB HL HJ HCB y2 yc hne z0 z2 HV6 HT6 HG7 HK7 HM7 yc7
        obtain ⟨u0,u1,u2⟩ := (HL7.out.choose_spec.2.2).cell
        clear u0 u1
        go_wp2_with fail
        refine xaC (S := fun w' => w'.cell? ⟨P,2,none⟩ = some (.int .i64 4)) (z := 6) (by kernel_rfl) ?_
        obtain ⟨z0',hz0'⟩ : ∃ z,z = World.drew w6 := ⟨_,rfl⟩
        have HRZ : Hid (z0'.heap[R]? = some (.cells #[.slice none 0 0,.slice none 0 0,.slice none 0 0,.int .i64 0,.int .i64 0,.int .i64 0,.slice none 0 0,.slice none 0 0,.int .i64 0,.slice none 0 0,.slice none 0 0] 30 (0,0))) := by rw [hz0']; exact HR7.out
        have HBZ : Hid (Below R w z0') := by rw [hz0']; exact yaD HB7.out
        have HSZ : Hid (z0'.cell? ⟨P,2,none⟩ = some (.int .i64 4)) := by rw [hz0']; exact u2
        rw [<- hz0']
        have hHeld : (fun w' => w'.cell? ⟨P,2,none⟩ = some (.int .i64 4)) z0' := HSZ.out
        clear hz0' u2
        refine tk (i := 0) (h := ?_)
        refine tk (i := 1) (h := ?_)
        refine tk (i := 2) (h := ?_)
        refine tk (i := 3) (h := ?_)
        refine ld (i := 4) [6] (h := ?_)
        have HS2 : Hid ((z0'.setRow R #[.slice none 0 0,.slice none 0 0,.slice none 0 0,.int .i64 0,.int .i64 0,.int .i64 0,.slice none 0 0,.slice none 0 0,.int .i64 0,.slice none 0 0,.slice none 0 0]).cell? ⟨P,2,none⟩ = some (.int .i64 4)) := by
         unfold Hid
         rw [World.cell?_of_block (w := z0') (setRow_other z0' R P _ hRP.symm)]
         exact HSZ.out
        refine xbT (i := 5) rfl (by kernel_rfl) rfl (fun K R' hK => ?_)
        refine wp_store_row 30 (.tmp 2) (.tmp 76) rfl R #[.slice none 0 0,.slice none 0 0,.slice none 0 0,.int .i64 0,.int .i64 0,.int .i64 0,.slice none 0 0,.slice none 0 0,.int .i64 0,.slice none 0 0,.slice none 0 0] rfl rfl 30 _ HRZ.out I11.out rfl (by simp [Value.oneCell']) ?_
        refine hK.out _ _ HS2.out (fun hHeld => xaB ?_)
        clear hK
        refine xbH rfl (by kernel_rfl) (by kernel_rfl) (by kernel_rfl) rfl (fun K R' hK => ?_)
        go_simp
        refine hK.out _ _ ?_
        clear hK hHeld
        have hrow : (z0'.setRow R #[.slice none 0 0,.slice none 0 0,.slice none 0 0,.int .i64 0,.int .i64 0,.int .i64 0,.slice none 0 0,.slice none 0 0,.int .i64 0,.slice none 0 0,.slice none 0 0]).heap[R]? = some (.cells #[.slice none 0 0,.slice none 0 0,.slice none 0 0,.int .i64 0,.int .i64 0,.int .i64 0,.slice none 0 0,.slice none 0 0,.int .i64 0,.slice none 0 0,.slice none 0 0] 30 (0,0)) := setRow_heap _ R _ _ _ _ HRZ.out
        have hcq : Chg R z0' (z0'.setRow R #[.slice none 0 0,.slice none 0 0,.slice none 0 0,.int .i64 0,.int .i64 0,.int .i64 0,.slice none 0 0,.slice none 0 0,.int .i64 0,.slice none 0 0,.slice none 0 0]) := ⟨rfl,rfl,rfl,by simp [World.setRow],fun j _ hj => setRow_other _ R j _ hj⟩
        go_wp2
        refine bodyPost_ret (xeT _ _ R #[.slice none 0 0,.slice none 0 0,.slice none 0 0,.int .i64 0,.int .i64 0,.int .i64 0,.slice none 0 0,.slice none 0 0,.int .i64 0,.slice none 0 0,.slice none 0 0] 4 rfl rfl hrow I11.out) rfl ?_
        refine ⟨?_,Or.inl ⟨4,by rw [HMOD.out]; exact HM8.out,rfl⟩⟩
        rw [HRE.out]
        exact HBZ.out.trans (hcq.below (Nat.le_refl _) (Nat.le_trans (by rw [HRE.out]; exact Nat.le_refl _) HBZ.out.size))
      | cons b lk =>
       have hSz : 0 < S.size := by
        rw [<- xaY,HSN.out]
        simp
       have hemp : S.toList.isEmpty = false := xpV S hSz
       have hby := HL.out.byte
       obtain ⟨hb0,hb1⟩ := hby b (by simp)
       have HBK : Hid (Bts lk) := fun c hc => hby c (List.mem_cons_of_mem _ hc)
       obtain ⟨bn,rfl⟩ : ∃ bn : Nat,b = (bn : Int) := ⟨b.toNat,by omega⟩
       have HK := kZz (xiD P ((bn : Int) :: lk) nn 0 wr HL.out)
       have HQN : Hid (xaI ((bn : Int) :: lk) 0 = ((bn : Int),lk,0)) := rfl
       rw [HQN.out] at HK
       dsimp only at HK
       have hla' := hla rfl
       have HTT : Hid (rM l = xmP (rSecs last v ((bn : Int) :: lk))) := (HT.out rfl).1
       have HDD : Hid (DSt wr R M C last v) := (HT.out rfl).2
       clear hby hSz HT hla
       go_wp2_with fail
       refine HK.out.mono ?_
       rintro r w5 ⟨rfl,h5,c5⟩
       have HD5 : Hid (DSt w5 R M C last v) := HDD.out.chg HL.out c5
       have HR5 : Hid (MX w5 R (mcA modZero)) := HR.out.chg c5 hRP
       have HB5 : Hid (Below R w w5) := HB.out.trans (c5.below hRPle hRw)
       have hR5 : R <= w5.heap.size := Nat.le_trans hRw c5.size
       obtain ⟨I,hI⟩ : ∃ I,I = w5.heap.size := ⟨_,rfl⟩
       obtain ⟨v6,hv6⟩ : ∃ v,v = w5.alloc (.cells #[.int .i64 (bn : Int)] 3) := ⟨_,rfl⟩
       have HV6 : Hid (v6 = w5.alloc (.cells #[.int .i64 (bn : Int)] 3)) := hv6
       have HIE : Hid (I = w5.heap.size) := hI
       have b6 : Below w5.heap.size w5 v6 := by rw [hv6]; exact (Below.refl _ _).alloc (Nat.le_refl _) _
       have hib : IB v6 I (bn : Int) := by rw [hv6,hI]; exact xaZ _ _
       have HL6 : Hid (CL v6 P lk nn 0) := h5.heap (b6.block P h5.lt)
       have HD6 : Hid (DSt v6 R M C last v) := HD5.out.below b6
       have HR6 : Hid (MX v6 R (mcA modZero)) := HR5.out.kp (Kp.below (fun _ => true) b6) rfl
       have HB6 : Hid (Below R w v6) := HB5.out.trans (b6.mono hR5)
       have hR6 : R <= v6.heap.size := Nat.le_trans hR5 b6.size
       have hIP : I ≠ P := by have := h5.lt; omega
       have HIB : Hid (IB v6 I (bn : Int)) := hib
       have j0 : (w5.alloc (.cells #[.int .i64 (bn : Int)] 3)).cell? ⟨I,0,none⟩ = some (.int .i64 (bn : Int)) := by rw [<- hv6]; exact hib.cell
       clear h5 c5 b6 hib hv6 hI HDD HD5 HR5 HB5 HL HR HB HJ HK HSN hemp z0 z2
       rw [HIE.out] at j0
       by_cases hr : 1 <= bn /\ bn <= 11
       ·obtain ⟨hr1,hr2⟩ := hr
        have hd1 : ((bn : Int) == 0) = false := by rw [beq_eq_false_iff_ne]; omega
        have hd2 : decide (11 < (bn : Int)) = false := decide_eq_false (by omega)
        by_cases hgt : last < bn
        ·have hd3 : decide ((bn : Int) <= (last : Int)) = false := decide_eq_false (by omega)
         go_wp2_with fail
         rw [<- HV6.out,<- HIE.out]
         refine (HL6.out.say _ _).mono ?_
         rintro r w7 ⟨rfl,h7,c7⟩
         have HL7 : Hid (CL w7 P lk nn 0) := h7
         have HD7 : Hid (DSt w7 R M C last v) := HD6.out.chg HL6.out c7
         have HR7 : Hid (MX w7 R (mcA modZero)) := HR6.out.chg c7 hRP
         have HB7 : Hid (Below R w w7) := HB6.out.trans (c7.below hRPle hR6)
         have hR7 : R <= w7.heap.size := Nat.le_trans hR6 c7.size
         have HI7 : Hid (IB w7 I (bn : Int)) := HIB.out.chg c7 hIP
         have j7 := HI7.out.cell
         clear h7 c7 j0 HL6 HD6 HR6 HB6 HIB HV6 HIE
         go_wp2_with fail
         refine (HL7.out.say _ _).mono ?_
         rintro r w8 ⟨rfl,h8,c8⟩
         have HL8 : Hid (CL w8 P lk nn 0) := by rw [show decide (bn <= last) = false from decide_eq_false (by omega)] at h8; exact h8
         have HD8 : Hid (DSt w8 R M C last v) := HD7.out.chg HL7.out c8
         have HR8 : Hid (MX w8 R (mcA modZero)) := HR7.out.chg c8 hRP
         have HB8 : Hid (Below R w w8) := HB7.out.trans (c8.below hRPle hR7)
         have hR8 : R <= w8.heap.size := Nat.le_trans hR7 c8.size
         have HI8 : Hid (IB w8 I (bn : Int)) := HI7.out.chg c8 hIP
         have j8 := HI8.out.cell
         obtain ⟨t0,t1,t2⟩ := (HL8.out.choose_spec.2.2).cell
         clear h8 c8 j7 HL7 HD7 HR7 HB7 HI7 t0 t1
         have HM8 : Hid (MaxIn w8) := HMX.out.b4 (HB8.out.mono hR4)
         have HWI := kZz (yfS P I M C R last bn v lk nn w8 HL8.out HI8.out HD8.out hgt hr2 HM8.out hP4 hC4 hM4 (by omega) hR8)
         have HST := kZz (xvQ last v (bn : Int) lk HBK.out ⟨by omega,by omega⟩ (by omega))
         rw [Int.toNat_natCast] at HST
         generalize xaG (xaF bn v) lk 0 = zz at HWI HST
         obtain ⟨v',l',a'⟩ := zz
         dsimp only at HWI HST
         have HCP : Hid (R ∉ [P,M,C]) := by unfold Hid; simp; omega
         clear hd1 hd2 hd3 HBK
         go_wp2_with fail
         refine HWI.out.mono ?_
         rintro r w9 ⟨rfl,h9,c9,j9,d9⟩
         have HL9 : Hid (CL w9 P l' nn a') := h9
         have HJ9 : Hid (JSt w9 M C) := j9
         have HD9 : Hid (a' = 0 -> DSt w9 R M C bn v') := d9
         have HR9 : Hid (MX w9 R (mcA modZero)) := by
          have h1 := HR8.out
          unfold MX at h1
          show w9.heap[R]? = _
          rw [c9.block R (xaU h1) HCP.out]
          exact h1
         have HB9 : Hid (Below R w w9) := HB8.out.trans (c9.to R (by simp; omega) hR8)
         have HT9 : Hid (a' = 0 -> rM l = xmP (rSecs bn v' l') /\ DSt w9 R M C bn v') := fun h0 => ⟨by rw [HTT.out,(HST.out.1 h0).1],HD9.out h0⟩
         have HE9 : Hid (a' ≠ 0 -> rM l = .error a') := fun h0 => by rw [HTT.out,HST.out.2 h0]; rfl
         have HME9 : Hid ((if xqO P w9 = 0 then 12 - bn else 0) < 12 - last) := by
          unfold Hid
          split <;> omega
         clear h9 c9 j9 d9 HWI HST HL8 HD8 HR8 HB8 HI8 j8 t2 HD9 HTT
         go_wp2
         go_roundw
         case rel => exact ⟨_,_,_,_,_,_,_,_,_,_,_,_,_,_,_,_,_,_,_,_,_,_,_,_,_,_,_,_,_,_,_,_,_,_,_,_,_,_,⟨bn,v',l',a',rfl,fun _ => hr2,by omega,HL9,HJ9,HR9,HB9,HT9,HE9⟩,rfl⟩
         case measure =>
          unfold yhF
          rw [HER.out,if_pos rfl]
          simp only [intOf]
          exact HME9.out
        ·have hd3 : decide ((bn : Int) <= (last : Int)) = true := decide_eq_true (by omega)
         go_wp2_with fail
         rw [<- HV6.out,<- HIE.out]
         refine (HL6.out.say _ _).mono ?_
         rintro r w7 ⟨rfl,h7,c7⟩
         have HL7 : Hid (CL w7 P lk nn 0) := h7
         have HD7 : Hid (DSt w7 R M C last v) := HD6.out.chg HL6.out c7
         have HR7 : Hid (MX w7 R (mcA modZero)) := HR6.out.chg c7 hRP
         have HB7 : Hid (Below R w w7) := HB6.out.trans (c7.below hRPle hR6)
         have hR7 : R <= w7.heap.size := Nat.le_trans hR6 c7.size
         have HI7 : Hid (IB w7 I (bn : Int)) := HIB.out.chg c7 hIP
         have j7 := HI7.out.cell
         clear h7 c7 j0 HL6 HD6 HR6 HB6 HIB HV6 HIE
         go_wp2_with fail
         refine (HL7.out.say _ _).mono ?_
         rintro r w8 ⟨rfl,h8,c8⟩
         have HL8 : Hid (CL w8 P lk nn 4) := by rw [show decide (bn <= last) = true from decide_eq_true (by omega)] at h8; exact h8
         have HD8 : Hid (DSt w8 R M C last v) := HD7.out.chg HL7.out c8
         have HR8 : Hid (MX w8 R (mcA modZero)) := HR7.out.chg c8 hRP
         have HB8 : Hid (Below R w w8) := HB7.out.trans (c8.below hRPle hR7)
         have hR8 : R <= w8.heap.size := Nat.le_trans hR7 c8.size
         have HI8 : Hid (IB w8 I (bn : Int)) := HI7.out.chg c8 hIP
         have j8 := HI8.out.cell
         obtain ⟨t0,t1,t2⟩ := (HL8.out.choose_spec.2.2).cell
         clear h8 c8 j7 HL7 HD7 HR7 HB7 HI7 t0 t1
         have HM8 : Hid (rM l = .error 4) := by rw [HTT.out,xtW last v (bn : Int) lk ⟨by omega,by omega⟩ (by omega)]; rfl
         have HJ8 : Hid (JSt w8 M C) := HD8.out.junk
         have HME9 : Hid ((if xqO P w8 = 0 then 12 - bn else 0) < 12 - last) := by
          unfold Hid
          rw [xjP HL8.out,if_neg (by decide)]
          omega
         clear HD8 HI8 HTT hR8
         go_wp2
         go_roundw
         case rel => exact ⟨_,_,_,_,_,_,_,_,_,_,_,_,_,_,_,_,_,_,_,_,_,_,_,_,_,_,_,_,_,_,_,_,_,_,_,_,_,_,⟨bn,v,lk,4,rfl,fun q => absurd q (by decide),by omega,HL8,HJ8,HR8,HB8,fun q => absurd q (by decide),fun _ => HM8.out⟩,rfl⟩
         case measure =>
          unfold yhF
          rw [HER.out,if_pos rfl]
          simp only [intOf]
          exact HME9.out
       ·have hz0 := hr
        by_cases hz : bn = 0
        ·have hd1 : ((bn : Int) == 0) = true := by rw [hz]; rfl
         have HZ0 : Hid (bn = 0) := hz
         clear hz hr hz0
         go_wp2_with fail
         rw [<- HV6.out,<- HIE.out]
         refine (HL6.out.say _ _).mono ?_
         rintro r w7 ⟨rfl,h7,c7⟩
         have HL7 : Hid (CL w7 P lk nn 6) := h7
         have HD7 : Hid (DSt w7 R M C last v) := HD6.out.chg HL6.out c7
         have HR7 : Hid (MX w7 R (mcA modZero)) := HR6.out.chg c7 hRP
         have HB7 : Hid (Below R w w7) := HB6.out.trans (c7.below hRPle hR6)
         have hR7 : R <= w7.heap.size := Nat.le_trans hR6 c7.size
         have HI7 : Hid (IB w7 I (bn : Int)) := HIB.out.chg c7 hIP
         have j7 := HI7.out.cell
         clear h7 c7 j0 HL6 HD6 HR6 HB6 HIB HV6 HIE
         go_wp2_with fail
         refine (HL7.out.say _ _).mono ?_
         rintro r w8 ⟨rfl,h8,c8⟩
         have HL8 : Hid (CL w8 P lk nn 6) := by (have e := xcL (a := 6) (by decide); unfold xcP at e; rw [e] at h8; exact h8)
         have HD8 : Hid (DSt w8 R M C last v) := HD7.out.chg HL7.out c8
         have HR8 : Hid (MX w8 R (mcA modZero)) := HR7.out.chg c8 hRP
         have HB8 : Hid (Below R w w8) := HB7.out.trans (c8.below hRPle hR7)
         have hR8 : R <= w8.heap.size := Nat.le_trans hR7 c8.size
         have HI8 : Hid (IB w8 I (bn : Int)) := HI7.out.chg c8 hIP
         have j8 := HI8.out.cell
         obtain ⟨t0,t1,t2⟩ := (HL8.out.choose_spec.2.2).cell
         clear h8 c8 j7 HL7 HD7 HR7 HB7 HI7 t0 t1
         have HM8 : Hid (rM l = .error 6) := by rw [HTT.out,xlI last v (bn : Int) lk (by have := HZ0.out; omega)]; rfl
         have HJ8 : Hid (JSt w8 M C) := HD8.out.junk
         have HME9 : Hid ((if xqO P w8 = 0 then 12 - bn else 0) < 12 - last) := by
          unfold Hid
          rw [xjP HL8.out,if_neg (by decide)]
          omega
         clear HD8 HI8 HTT hR8
         go_wp2
         go_roundw
         case rel => exact ⟨_,_,_,_,_,_,_,_,_,_,_,_,_,_,_,_,_,_,_,_,_,_,_,_,_,_,_,_,_,_,_,_,_,_,_,_,_,_,⟨bn,v,lk,6,rfl,fun q => absurd q (by decide),by omega,HL8,HJ8,HR8,HB8,fun q => absurd q (by decide),fun _ => HM8.out⟩,rfl⟩
         case measure =>
          unfold yhF
          rw [HER.out,if_pos rfl]
          simp only [intOf]
          exact HME9.out
        ·have hd1 : ((bn : Int) == 0) = false := by rw [beq_eq_false_iff_ne]; omega
         have hd2 : decide (11 < (bn : Int)) = true := decide_eq_true (by omega)
         have HZ1 : Hid (11 < bn) := by unfold Hid; omega
         clear hz hr hz0
         go_wp2_with fail
         rw [<- HV6.out,<- HIE.out]
         refine (HL6.out.say _ _).mono ?_
         rintro r w7 ⟨rfl,h7,c7⟩
         have HL7 : Hid (CL w7 P lk nn 6) := h7
         have HD7 : Hid (DSt w7 R M C last v) := HD6.out.chg HL6.out c7
         have HR7 : Hid (MX w7 R (mcA modZero)) := HR6.out.chg c7 hRP
         have HB7 : Hid (Below R w w7) := HB6.out.trans (c7.below hRPle hR6)
         have hR7 : R <= w7.heap.size := Nat.le_trans hR6 c7.size
         have HI7 : Hid (IB w7 I (bn : Int)) := HIB.out.chg c7 hIP
         have j7 := HI7.out.cell
         clear h7 c7 j0 HL6 HD6 HR6 HB6 HIB HV6 HIE
         go_wp2_with fail
         refine (HL7.out.say _ _).mono ?_
         rintro r w8 ⟨rfl,h8,c8⟩
         have HL8 : Hid (CL w8 P lk nn 6) := by (have e := xcL (a := 6) (by decide); unfold xcP at e; rw [e] at h8; exact h8)
         have HD8 : Hid (DSt w8 R M C last v) := HD7.out.chg HL7.out c8
         have HR8 : Hid (MX w8 R (mcA modZero)) := HR7.out.chg c8 hRP
         have HB8 : Hid (Below R w w8) := HB7.out.trans (c8.below hRPle hR7)
         have hR8 : R <= w8.heap.size := Nat.le_trans hR7 c8.size
         have HI8 : Hid (IB w8 I (bn : Int)) := HI7.out.chg c8 hIP
         have j8 := HI8.out.cell
         obtain ⟨t0,t1,t2⟩ := (HL8.out.choose_spec.2.2).cell
         clear h8 c8 j7 HL7 HD7 HR7 HB7 HI7 t0 t1
         have HM8 : Hid (rM l = .error 6) := by rw [HTT.out,xlI last v (bn : Int) lk (by have := HZ1.out; omega)]; rfl
         have HJ8 : Hid (JSt w8 M C) := HD8.out.junk
         have HME9 : Hid ((if xqO P w8 = 0 then 12 - bn else 0) < 12 - last) := by
          unfold Hid
          rw [xjP HL8.out,if_neg (by decide)]
          omega
         clear HD8 HI8 HTT hR8
         go_wp2
         go_roundw
         case rel => exact ⟨_,_,_,_,_,_,_,_,_,_,_,_,_,_,_,_,_,_,_,_,_,_,_,_,_,_,_,_,_,_,_,_,_,_,_,_,_,_,⟨bn,v,lk,6,rfl,fun q => absurd q (by decide),by omega,HL8,HJ8,HR8,HB8,fun q => absurd q (by decide),fun _ => HM8.out⟩,rfl⟩
         case measure =>
          unfold yhF
          rw [HER.out,if_pos rfl]
          simp only [intOf]
          exact HME9.out
     ·have hb : (aj == 0) = false := by rw [beq_eq_false_iff_ne]; exact h0
      have HN0 : Hid (aj ≠ 0) := h0
      have HM8 : Hid (rM l = .error aj) := HE.out h0
      obtain ⟨A,o,o',n1,n2,c1,c2,hM,hC,hA⟩ := HJ.out
      have yc := hC.cell
      have y2 : wr.cell? ⟨M,2,none⟩ = some (.slice o' n2 c2) := by rw [hM.cell 2]; exact hA
      clear h0 hM hC hA HT HE HJ
      go_wp2_with fail
      refine (HL.out.say _ _).mono ?_
      rintro r w6 ⟨rfl,h6,c6⟩
      have HR7 : Hid (MX w6 R (mcA modZero)) := HR.out.chg c6 hRP
      have HB7 : Hid (Below R w w6) := HB.out.trans (c6.below hRPle hRw)
      have HL7 : Hid (CL w6 P lj nn aj) := by
       have e := xcL HN0.out
       unfold xcP at e
       rw [e] at h6
       exact h6
      clear h6 c6 HR HB HL yc y2 z0 z2
      obtain ⟨u0,u1,u2⟩ := (HL7.out.choose_spec.2.2).cell
      clear u0 u1
      go_wp2_with fail
      refine xaC (S := fun w' => w'.cell? ⟨P,2,none⟩ = some (.int .i64 aj)) (z := 6) (by kernel_rfl) ?_
      obtain ⟨z0',hz0'⟩ : ∃ z,z = World.drew w6 := ⟨_,rfl⟩
      have HRZ : Hid (z0'.heap[R]? = some (.cells #[.slice none 0 0,.slice none 0 0,.slice none 0 0,.int .i64 0,.int .i64 0,.int .i64 0,.slice none 0 0,.slice none 0 0,.int .i64 0,.slice none 0 0,.slice none 0 0] 30 (0,0))) := by rw [hz0']; exact HR7.out
      have HBZ : Hid (Below R w z0') := by rw [hz0']; exact yaD HB7.out
      have HSZ : Hid (z0'.cell? ⟨P,2,none⟩ = some (.int .i64 aj)) := by rw [hz0']; exact u2
      rw [<- hz0']
      have hHeld : (fun w' => w'.cell? ⟨P,2,none⟩ = some (.int .i64 aj)) z0' := HSZ.out
      clear hz0' u2
      refine tk (i := 0) (h := ?_)
      refine tk (i := 1) (h := ?_)
      refine tk (i := 2) (h := ?_)
      refine tk (i := 3) (h := ?_)
      refine ld (i := 4) [6] (h := ?_)
      have HS2 : Hid ((z0'.setRow R #[.slice none 0 0,.slice none 0 0,.slice none 0 0,.int .i64 0,.int .i64 0,.int .i64 0,.slice none 0 0,.slice none 0 0,.int .i64 0,.slice none 0 0,.slice none 0 0]).cell? ⟨P,2,none⟩ = some (.int .i64 aj)) := by
       unfold Hid
       rw [World.cell?_of_block (w := z0') (setRow_other z0' R P _ hRP.symm)]
       exact HSZ.out
      refine xbT (i := 5) rfl (by kernel_rfl) rfl (fun K R' hK => ?_)
      refine wp_store_row 30 (.tmp 2) (.tmp 76) rfl R #[.slice none 0 0,.slice none 0 0,.slice none 0 0,.int .i64 0,.int .i64 0,.int .i64 0,.slice none 0 0,.slice none 0 0,.int .i64 0,.slice none 0 0,.slice none 0 0] rfl rfl 30 _ HRZ.out I11.out rfl (by simp [Value.oneCell']) ?_
      refine hK.out _ _ HS2.out (fun hHeld => xaB ?_)
      clear hK
      refine xbH rfl (by kernel_rfl) (by kernel_rfl) (by kernel_rfl) rfl (fun K R' hK => ?_)
      go_simp
      refine hK.out _ _ ?_
      clear hK hHeld
      have hrow : (z0'.setRow R #[.slice none 0 0,.slice none 0 0,.slice none 0 0,.int .i64 0,.int .i64 0,.int .i64 0,.slice none 0 0,.slice none 0 0,.int .i64 0,.slice none 0 0,.slice none 0 0]).heap[R]? = some (.cells #[.slice none 0 0,.slice none 0 0,.slice none 0 0,.int .i64 0,.int .i64 0,.int .i64 0,.slice none 0 0,.slice none 0 0,.int .i64 0,.slice none 0 0,.slice none 0 0] 30 (0,0)) := setRow_heap _ R _ _ _ _ HRZ.out
      have hcq : Chg R z0' (z0'.setRow R #[.slice none 0 0,.slice none 0 0,.slice none 0 0,.int .i64 0,.int .i64 0,.int .i64 0,.slice none 0 0,.slice none 0 0,.int .i64 0,.slice none 0 0,.slice none 0 0]) := ⟨rfl,rfl,rfl,by simp [World.setRow],fun j _ hj => setRow_other _ R j _ hj⟩
      go_wp2
      refine bodyPost_ret (xeT _ _ R #[.slice none 0 0,.slice none 0 0,.slice none 0 0,.int .i64 0,.int .i64 0,.int .i64 0,.slice none 0 0,.slice none 0 0,.int .i64 0,.slice none 0 0,.slice none 0 0] aj rfl rfl hrow I11.out) rfl ?_
      refine ⟨?_,Or.inl ⟨aj,by rw [HMOD.out]; exact HM8.out,rfl⟩⟩
      rw [HRE.out]
      exact HBZ.out.trans (hcq.below (Nat.le_refl _) (Nat.le_trans (by rw [HRE.out]; exact Nat.le_refl _) HBZ.out.size))
end Go.Proofs.YtmmjgdaamkdncaaGreatDoor
