import Derived.Test.YtmmjgdaamkdncaaGreatDoorABWhole
import Derived.Recover
import Derived.Defers
namespace Go.Proofs.YtmmjgdaamkdncaaGreatDoor
set_option maxHeartbeats 8000000
set_option maxRecDepth 1000000
set_option linter.unusedVariables false
open Go.RowKit
theorem xvH {last : Nat} {d : DrV} {b : Int} {l : List Int} (h : ¬ (1 <= b /\ b <= 11)) : rSecs last d (b :: l) = .error 6 := by rw [rSecs,dif_neg h]
theorem ycC {last : Nat} {d : DrV} {b : Int} {l : List Int} (h : 1 <= b /\ b <= 11) (h2 : ¬ (last : Int) < b) : rSecs last d (b :: l) = .error 4 := by rw [rSecs,dif_pos h,dif_neg h2]
theorem xmN {last : Nat} {d : DrV} {b e : Int} {l : List Int} (h : 1 <= b /\ b <= 11) (h2 : (last : Int) < b) (h3 : xdE (xdD b.toNat d) l = .error e) : rSecs last d (b :: l) = .error e := by rw [rSecs,dif_pos h,dif_pos h2,h3]
theorem xzH {last : Nat} {d d1 : DrV} {b : Int} {l r : List Int} (h : 1 <= b /\ b <= 11) (h2 : (last : Int) < b) (h3 : xdE (xdD b.toNat d) l = .ok (d1,r)) : rSecs last d (b :: l) = rSecs b.toNat d1 r := by rw [rSecs,dif_pos h,dif_pos h2,h3]
def rM (l : List Int) : Except Int DrV := match xbO head8 l with
 | .error e => .error e
 | .ok (_,r) => match rSecs 0 DrV.zero r with
  | .error e => .error e
  | .ok d => if d.ftypes.length = d.codes.length then .ok d else .error 4
theorem xzG {l : List Int} {e : Int} (h : xbO head8 l = .error e) : rM l = .error e := by unfold rM; rw [h]
theorem yfD {l r : List Int} {u : Unit} {e : Int} (h : xbO head8 l = .ok (u,r)) (h2 : rSecs 0 DrV.zero r = .error e) : rM l = .error e := by unfold rM; rw [h]; dsimp only; rw [h2]
theorem ymH {l r : List Int} {u : Unit} {d : DrV} (h : xbO head8 l = .ok (u,r)) (h2 : rSecs 0 DrV.zero r = .ok d) : rM l = if d.ftypes.length = d.codes.length then .ok d else .error 4 := by unfold rM; rw [h]; dsimp only; rw [h2]
theorem xvF (l : List Int) (h : l.length <= 4096) : xmM l = rM l := by unfold xmM rM; rw [if_neg (by omega)]; cases xbO head8 l with
 | error e => rfl
 | ok q => obtain ⟨u,r⟩ := q; dsimp only; cases rSecs 0 DrV.zero r <;> rfl
theorem xcF {b e : Int} {r l : List Int} (h : xfX b 4 l = .error e) : xbO (b :: r) l = .error e := by rw [xbO,xaW h]
theorem xcG {b : Int} {r l l1 : List Int} {u : Unit} (h : xfX b 4 l = .ok (u,l1)) : xbO (b :: r) l = xbO r l1 := by rw [xbO,xaV h]
def modZero : ModD := ⟨none,0,[],none,0,[],none,0,[],0,0,0,none,0,[],none,0,[],0,none,0,[],none,0,[]⟩
def xqW : NumD := ⟨none,0,0,[]⟩
theorem xsR (w : World) (N : Nat) : DrG w N modZero xqW := by
 have z : inI 0 := ⟨by decide,by decide⟩
 exact ⟨LR.nil _ _ _ _ _ _,LR.nil _ _ _ _ _ _,LR.nil _ _ _ _ _ _,LR.nil _ _ _ _ _ _,LR.nil _ _ _ _ _ _,LR.nil _ _ _ _ _ _,LR.nil _ _ _ _ _ _,LR.nil _ _ _ _ _ _,z,z,z,z⟩
theorem Chg2.below {D I N : Nat} {w w' : World} (c : Chg2 D I w w') (h1 : N <= D) (h2 : N <= I) (h3 : N <= w.heap.size) : Below N w w' := ⟨c.os,c.tape,c.output,c.size,fun k hk => c.block k (by omega) (by omega) (by omega)⟩
def ycI (t : TypeId) : Bool := t != 30
theorem DrG.kpM {w w' : World} {N : Nat} {d : ModD} (h : ModG w N d) (q : Kp ycI w w') : ModG w' N d :=
 ⟨h.types.kp q (by decide) (fun _ hd => hd.kp q (by decide)),h.imports.kp q (by decide) (fun _ hd => hd),h.funcs.kp q (by decide) (fun _ hd => hd.kp q (by decide) (by decide) (by decide)),h.globals.kp q (by decide) (fun _ hd => hd),h.exports.kp q (by decide) (fun _ hd => hd),h.elems.kp q (by decide) (fun _ hd => hd.kp q (by decide)),h.data.kp q (by decide) (fun _ hd => hd),LR.nil _ _ _ _ _ _,h.table,h.pages,h.most,h.start⟩
def ynR (N : Nat) (w0 : World) (l : List Int) (r : Ending) (w' : World) : Prop := Below N w0 w' /\ ((∃ e,rM l = .error e /\ r = pan e) \/ ∃ m : ModD,rM l = .ok m.val /\ r = .returned (.agg (mcA m)) /\ ModG w' N m)
theorem xlO (P N : Nat) (l : List Int) (w0 w : World) (hA0 : Amb w0) (hN4 : 4 <= N) (hNP : N <= P) (hW : Below N w0 w /\ N <= hsz w) (h : BR w P l) :
  Calls Tryz.prog 9 #[.pointer (some ⟨P,0,none⟩)] w (ynR N w0 l) := by
 have hPw := h.lt
 have hNw : N <= w.heap.size := hW.2
 have bA : Below w.heap.size w (w.alloc (.cells #[.slice none 0 0,.slice none 0 0,.slice none 0 0,.int .i64 0,.int .i64 0,.int .i64 0,.slice none 0 0,.slice none 0 0,.int .i64 0,.slice none 0 0,.slice none 0 0] 30)) := (Below.refl _ _).alloc (Nat.le_refl _) _
 have HB0 : Hid (BR (w.alloc (.cells #[.slice none 0 0,.slice none 0 0,.slice none 0 0,.int .i64 0,.int .i64 0,.int .i64 0,.slice none 0 0,.slice none 0 0,.int .i64 0,.slice none 0 0,.slice none 0 0] 30)) P l) := h.under bA
 have HC0 : Hid (Chg P w (w.alloc (.cells #[.slice none 0 0,.slice none 0 0,.slice none 0 0,.int .i64 0,.int .i64 0,.int .i64 0,.slice none 0 0,.slice none 0 0,.int .i64 0,.slice none 0 0,.slice none 0 0] 30))) := Chg.of_below bA
 have HX0 : Hid (X11 (w.alloc (.cells #[.slice none 0 0,.slice none 0 0,.slice none 0 0,.int .i64 0,.int .i64 0,.int .i64 0,.slice none 0 0,.slice none 0 0,.int .i64 0,.slice none 0 0,.slice none 0 0] 30)) w.heap.size (.slice none 0 0) (.slice none 0 0) (.slice none 0 0) (.int .i64 0) (.int .i64 0) (.int .i64 0) (.slice none 0 0) (.slice none 0 0) (.int .i64 0) (.slice none 0 0) (.slice none 0 0)) := xaZ _ _
 have HW0 : Hid (Below N w0 w) := hW.1
 have HA0 : Hid (Amb w0) := hA0
 have hQP : w.heap.size ≠ P := by omega
 clear bA h hW hA0
 go_enter Tryz.func9,Tryz.ntmps9
 go_wp2
 go_loopw [3,8] (fun _ iv wr => ∃ k : Nat,∃ li : List Int,iv = .int .i64 (k : Int) /\ k <= 8 /\ Hid (xbO head8 l = xbO (head8.drop k) li) /\ Hid (BR wr P li) /\ Hid (Chg P w wr) /\ Hid (X11 wr w.heap.size (.slice none 0 0) (.slice none 0 0) (.slice none 0 0) (.int .i64 0) (.int .i64 0) (.int .i64 0) (.slice none 0 0) (.slice none 0 0) (.int .i64 0) (.slice none 0 0) (.slice none 0 0))) (fun _ iv _ => 8 - (intOf iv).toNat)
 case atStart => exact ⟨0,l,rfl,by omega,rfl,HB0,HC0,HX0⟩
 case round =>
  obtain ⟨k,li,rfl,hk,HF,HB,HC,HX⟩ := hrel
  clear HB0 HC0 HX0
  by_cases hlt : k < 8
  ·have hk8 : k = 0 \/ k = 1 \/ k = 2 \/ k = 3 \/ k = 4 \/ k = 5 \/ k = 6 \/ k = 7 := by omega
   rcases hk8 with rfl | rfl | rfl | rfl | rfl | rfl | rfl | rfl
   ·go_wp2_with fail
    refine (xcA P li 0 4 _ HB.out).mono ?_
    intro r w1 ho
    rcases hx : xfX 0 4 li with x | ⟨u,l1⟩
    ·obtain ⟨c,rfl⟩ := ho.err hx
     exact ⟨rfl,xaD HW0.out (HC.out.trans c) hNP hNw,Or.inl ⟨x,xzG (HF.out.trans (xcF hx)),rfl⟩⟩
    obtain ⟨c,⟨v,rfl,rfl⟩,hb⟩ := ho.got hx
    have HF1 : Hid (xbO head8 l = xbO (head8.drop 1) l1) := HF.out.trans (xcG hx)
    have HB1 : Hid (BR w1 P l1) := hb
    have HC1 : Hid (Chg P w w1) := HC.out.trans c
    have HX1 := kZz (HX.out.chg c hQP)
    clear hx ho hb c HB HC HX HF
    go_wp2
    go_roundw
    case rel => exact ⟨1,l1,rfl,by omega,HF1,HB1,HC1,HX1⟩
    case measure => simp [intOf]
   ·go_wp2_with fail
    refine (xcA P li 97 4 _ HB.out).mono ?_
    intro r w1 ho
    rcases hx : xfX 97 4 li with x | ⟨u,l1⟩
    ·obtain ⟨c,rfl⟩ := ho.err hx
     exact ⟨rfl,xaD HW0.out (HC.out.trans c) hNP hNw,Or.inl ⟨x,xzG (HF.out.trans (xcF hx)),rfl⟩⟩
    obtain ⟨c,⟨v,rfl,rfl⟩,hb⟩ := ho.got hx
    have HF1 : Hid (xbO head8 l = xbO (head8.drop 2) l1) := HF.out.trans (xcG hx)
    have HB1 : Hid (BR w1 P l1) := hb
    have HC1 : Hid (Chg P w w1) := HC.out.trans c
    have HX1 := kZz (HX.out.chg c hQP)
    clear hx ho hb c HB HC HX HF
    go_wp2
    go_roundw
    case rel => exact ⟨2,l1,rfl,by omega,HF1,HB1,HC1,HX1⟩
    case measure => simp [intOf]
   ·go_wp2_with fail
    refine (xcA P li 115 4 _ HB.out).mono ?_
    intro r w1 ho
    rcases hx : xfX 115 4 li with x | ⟨u,l1⟩
    ·obtain ⟨c,rfl⟩ := ho.err hx
     exact ⟨rfl,xaD HW0.out (HC.out.trans c) hNP hNw,Or.inl ⟨x,xzG (HF.out.trans (xcF hx)),rfl⟩⟩
    obtain ⟨c,⟨v,rfl,rfl⟩,hb⟩ := ho.got hx
    have HF1 : Hid (xbO head8 l = xbO (head8.drop 3) l1) := HF.out.trans (xcG hx)
    have HB1 : Hid (BR w1 P l1) := hb
    have HC1 : Hid (Chg P w w1) := HC.out.trans c
    have HX1 := kZz (HX.out.chg c hQP)
    clear hx ho hb c HB HC HX HF
    go_wp2
    go_roundw
    case rel => exact ⟨3,l1,rfl,by omega,HF1,HB1,HC1,HX1⟩
    case measure => simp [intOf]
   ·go_wp2_with fail
    refine (xcA P li 109 4 _ HB.out).mono ?_
    intro r w1 ho
    rcases hx : xfX 109 4 li with x | ⟨u,l1⟩
    ·obtain ⟨c,rfl⟩ := ho.err hx
     exact ⟨rfl,xaD HW0.out (HC.out.trans c) hNP hNw,Or.inl ⟨x,xzG (HF.out.trans (xcF hx)),rfl⟩⟩
    obtain ⟨c,⟨v,rfl,rfl⟩,hb⟩ := ho.got hx
    have HF1 : Hid (xbO head8 l = xbO (head8.drop 4) l1) := HF.out.trans (xcG hx)
    have HB1 : Hid (BR w1 P l1) := hb
    have HC1 : Hid (Chg P w w1) := HC.out.trans c
    have HX1 := kZz (HX.out.chg c hQP)
    clear hx ho hb c HB HC HX HF
    go_wp2
    go_roundw
    case rel => exact ⟨4,l1,rfl,by omega,HF1,HB1,HC1,HX1⟩
    case measure => simp [intOf]
   ·go_wp2_with fail
    refine (xcA P li 1 4 _ HB.out).mono ?_
    intro r w1 ho
    rcases hx : xfX 1 4 li with x | ⟨u,l1⟩
    ·obtain ⟨c,rfl⟩ := ho.err hx
     exact ⟨rfl,xaD HW0.out (HC.out.trans c) hNP hNw,Or.inl ⟨x,xzG (HF.out.trans (xcF hx)),rfl⟩⟩
    obtain ⟨c,⟨v,rfl,rfl⟩,hb⟩ := ho.got hx
    have HF1 : Hid (xbO head8 l = xbO (head8.drop 5) l1) := HF.out.trans (xcG hx)
    have HB1 : Hid (BR w1 P l1) := hb
    have HC1 : Hid (Chg P w w1) := HC.out.trans c
    have HX1 := kZz (HX.out.chg c hQP)
    clear hx ho hb c HB HC HX HF
    go_wp2
    go_roundw
    case rel => exact ⟨5,l1,rfl,by omega,HF1,HB1,HC1,HX1⟩
    case measure => simp [intOf]
   ·go_wp2_with fail
    refine (xcA P li 0 4 _ HB.out).mono ?_
    intro r w1 ho
    rcases hx : xfX 0 4 li with x | ⟨u,l1⟩
    ·obtain ⟨c,rfl⟩ := ho.err hx
     exact ⟨rfl,xaD HW0.out (HC.out.trans c) hNP hNw,Or.inl ⟨x,xzG (HF.out.trans (xcF hx)),rfl⟩⟩
    obtain ⟨c,⟨v,rfl,rfl⟩,hb⟩ := ho.got hx
    have HF1 : Hid (xbO head8 l = xbO (head8.drop 6) l1) := HF.out.trans (xcG hx)
    have HB1 : Hid (BR w1 P l1) := hb
    have HC1 : Hid (Chg P w w1) := HC.out.trans c
    have HX1 := kZz (HX.out.chg c hQP)
    clear hx ho hb c HB HC HX HF
    go_wp2
    go_roundw
    case rel => exact ⟨6,l1,rfl,by omega,HF1,HB1,HC1,HX1⟩
    case measure => simp [intOf]
   ·go_wp2_with fail
    refine (xcA P li 0 4 _ HB.out).mono ?_
    intro r w1 ho
    rcases hx : xfX 0 4 li with x | ⟨u,l1⟩
    ·obtain ⟨c,rfl⟩ := ho.err hx
     exact ⟨rfl,xaD HW0.out (HC.out.trans c) hNP hNw,Or.inl ⟨x,xzG (HF.out.trans (xcF hx)),rfl⟩⟩
    obtain ⟨c,⟨v,rfl,rfl⟩,hb⟩ := ho.got hx
    have HF1 : Hid (xbO head8 l = xbO (head8.drop 7) l1) := HF.out.trans (xcG hx)
    have HB1 : Hid (BR w1 P l1) := hb
    have HC1 : Hid (Chg P w w1) := HC.out.trans c
    have HX1 := kZz (HX.out.chg c hQP)
    clear hx ho hb c HB HC HX HF
    go_wp2
    go_roundw
    case rel => exact ⟨7,l1,rfl,by omega,HF1,HB1,HC1,HX1⟩
    case measure => simp [intOf]
   ·go_wp2_with fail
    refine (xcA P li 0 4 _ HB.out).mono ?_
    intro r w1 ho
    rcases hx : xfX 0 4 li with x | ⟨u,l1⟩
    ·obtain ⟨c,rfl⟩ := ho.err hx
     exact ⟨rfl,xaD HW0.out (HC.out.trans c) hNP hNw,Or.inl ⟨x,xzG (HF.out.trans (xcF hx)),rfl⟩⟩
    obtain ⟨c,⟨v,rfl,rfl⟩,hb⟩ := ho.got hx
    have HF1 : Hid (xbO head8 l = xbO (head8.drop 8) l1) := HF.out.trans (xcG hx)
    have HB1 : Hid (BR w1 P l1) := hb
    have HC1 : Hid (Chg P w w1) := HC.out.trans c
    have HX1 := kZz (HX.out.chg c hQP)
    clear hx ho hb c HB HC HX HF
    go_wp2
    go_roundw
    case rel => exact ⟨8,l1,rfl,by omega,HF1,HB1,HC1,HX1⟩
    case measure => simp [intOf]
  ·obtain rfl : k = 8 := by omega
   have HF2 : Hid (xbO head8 l = .ok ((),li)) := HF.out
   have hsr := HC.out.size
   have bD : Below wr.heap.size wr (wr.alloc (.cells #[.slice none 0 0,.slice none 0 0,.slice none 0 0,.int .i64 0,.int .i64 0,.int .i64 0,.slice none 0 0,.slice none 0 0,.int .i64 0,.slice none 0 0,.slice none 0 0,.slice none 0 0] 85)) := (Below.refl _ _).alloc (Nat.le_refl _) _
   have HB1 : Hid (BR (wr.alloc (.cells #[.slice none 0 0,.slice none 0 0,.slice none 0 0,.int .i64 0,.int .i64 0,.int .i64 0,.slice none 0 0,.slice none 0 0,.int .i64 0,.slice none 0 0,.slice none 0 0,.slice none 0 0] 85)) P li) := HB.out.under bD
   have HC1 : Hid (Chg P w (wr.alloc (.cells #[.slice none 0 0,.slice none 0 0,.slice none 0 0,.int .i64 0,.int .i64 0,.int .i64 0,.slice none 0 0,.slice none 0 0,.int .i64 0,.slice none 0 0,.slice none 0 0,.slice none 0 0] 85))) := HC.out.trans (Chg.of_below bD)
   have HX1 : Hid (X11 (wr.alloc (.cells #[.slice none 0 0,.slice none 0 0,.slice none 0 0,.int .i64 0,.int .i64 0,.int .i64 0,.slice none 0 0,.slice none 0 0,.int .i64 0,.slice none 0 0,.slice none 0 0,.slice none 0 0] 85)) w.heap.size (.slice none 0 0) (.slice none 0 0) (.slice none 0 0) (.int .i64 0) (.int .i64 0) (.int .i64 0) (.slice none 0 0) (.slice none 0 0) (.int .i64 0) (.slice none 0 0) (.slice none 0 0)) := HX.out.chg (Chg.of_below (P := P) bD) hQP
   have HD1 : Hid (DB (wr.alloc (.cells #[.slice none 0 0,.slice none 0 0,.slice none 0 0,.int .i64 0,.int .i64 0,.int .i64 0,.slice none 0 0,.slice none 0 0,.int .i64 0,.slice none 0 0,.slice none 0 0,.slice none 0 0] 85)) wr.heap.size modZero xqW) := xaZ _ _
   have hDw : w.heap.size <= wr.heap.size := hsr
   have hND : N <= wr.heap.size := by omega
   have hPD : wr.heap.size ≠ P := by
    have := HB.out.lt
    omega
   have HBW1 : Hid (Below N w0 (wr.alloc (.cells #[.slice none 0 0,.slice none 0 0,.slice none 0 0,.int .i64 0,.int .i64 0,.int .i64 0,.slice none 0 0,.slice none 0 0,.int .i64 0,.slice none 0 0,.slice none 0 0,.slice none 0 0] 85))) := xaD HW0.out HC1.out hNP hNw
   have hNW1 : N <= (wr.alloc (.cells #[.slice none 0 0,.slice none 0 0,.slice none 0 0,.int .i64 0,.int .i64 0,.int .i64 0,.slice none 0 0,.slice none 0 0,.int .i64 0,.slice none 0 0,.slice none 0 0,.slice none 0 0] 85)).heap.size := by have := bD.size; omega
   clear bD HF HB HC HX hsr
   obtain ⟨D,hDe⟩ : ∃ D,wr.heap.size = D := ⟨_,rfl⟩
   rw [hDe] at HD1 hDw hND hPD
   go_wp2
   go_loopw [5] (fun lv wr => ∃ last : Nat,∃ d : ModD,∃ f : NumD,∃ lj : List Int,lv = .int .u8 (last : Int) /\ last <= 11 /\ Hid (rSecs 0 DrV.zero li = rSecs last (drV d f) lj) /\ Hid (BR wr P lj) /\ Hid (DB wr D d f) /\ Hid (DrG wr N d f) /\ Hid (Below N w0 wr) /\ Hid (N <= wr.heap.size) /\ Hid (X11 wr w.heap.size (.slice none 0 0) (.slice none 0 0) (.slice none 0 0) (.int .i64 0) (.int .i64 0) (.int .i64 0) (.slice none 0 0) (.slice none 0 0) (.int .i64 0) (.slice none 0 0) (.slice none 0 0))) (fun lv _ => 12 - (intOf lv).toNat)
   case atStart => exact ⟨0,modZero,xqW,li,rfl,by omega,rfl,HB1,HD1,xsR _ _,HBW1,hNW1,HX1⟩
   case round =>
    obtain ⟨last,d,f,lj,rfl,hlast,HS,HB,HD,HG,HW,HN,HX⟩ := hrel
    clear HB1 HC1 HX1 HD1 HBW1 hNW1
    have HBB : Hid (BR wr P lj) := HB.out
    obtain ⟨S,hS1,hS2,hS3⟩ := HB.out
    have hc := hS3.c
    cases lj with
    | nil =>
     have e : S = ⟨#[]⟩ := by
      obtain ⟨D0⟩ := S
      congr 1
      apply Array.eq_empty_of_size_eq_zero
      have := congrArg List.length hS1
      rw [xaY] at this
      exact this
     subst e
     have HS2 : Hid (rSecs 0 DrV.zero li = .ok (drV d f)) := HS.out.trans (by rw [rSecs])
     clear hS1 hS2 hS3 HS
     by_cases heq : f.xs.length = d.funcs.length
     ·have HM : Hid (rM l = .ok (drV d f)) := by
       unfold Hid
       rw [ymH HF2.out HS2.out,if_pos (by unfold drV; dsimp only; rw [List.length_map]; exact heq)]
      have hfn : f.n = d.funcs.length := by rw [<- HG.out.ft.len]; exact heq
      have HWH := kZz (xyD D N d.funcs.length wr d f HD.out HG.out rfl hfn HN.out hND)
      go_wp2_with fail
      refine HWH.out.mono ?_
      rintro r w5 ⟨m,C,HC,rfl,hm1,hm2,hb5,hk5⟩
      have HCS : Hid (C.size = 11) := by unfold Hid; rw [HC.out]; rfl
      have HC1 : Hid (C.all (·.oneCell') = true) := by unfold Hid; rw [HC.out]; simp [mcA,Value.oneCell']
      have HI30 : Hid ((Tryz.prog.info? 30).map (·.size) = some C.size) := by unfold Hid; rw [HCS.out]; exact xdO
      have HS5 : Hid ((#[.slice none 0 0,.slice none 0 0,.slice none 0 0,.int .i64 0,.int .i64 0,.int .i64 0,.slice none 0 0,.slice none 0 0,.int .i64 0,.slice none 0 0,.slice none 0 0] : Array Value).size = C.size) := by unfold Hid; rw [HCS.out]; rfl
      have HX5 : Hid (X11 w5 w.heap.size (.slice none 0 0) (.slice none 0 0) (.slice none 0 0) (.int .i64 0) (.int .i64 0) (.int .i64 0) (.slice none 0 0) (.slice none 0 0) (.int .i64 0) (.slice none 0 0) (.slice none 0 0)) := by
       have h3 : wr.heap[w.heap.size]? = some (.cells #[.slice none 0 0,.slice none 0 0,.slice none 0 0,.int .i64 0,.int .i64 0,.int .i64 0,.slice none 0 0,.slice none 0 0,.int .i64 0,.slice none 0 0,.slice none 0 0] 30 (0,0)) := HX.out
       show w5.heap[w.heap.size]? = some (.cells #[.slice none 0 0,.slice none 0 0,.slice none 0 0,.int .i64 0,.int .i64 0,.int .i64 0,.slice none 0 0,.slice none 0 0,.int .i64 0,.slice none 0 0,.slice none 0 0] 30 (0,0))
       rw [hk5.blk _ _ _ _ h3 (by decide)]
       exact h3
      have HM1 : Hid (ModG w5 N m) := hm1
      have HM2 : Hid (m.val = drV d f) := hm2
      have HW5 : Hid (Below N w0 w5) := HW.out.trans hb5
      have HN5 : Hid (N <= w5.heap.size) := Nat.le_trans HN.out hb5.size
      clear hm1 hm2 hb5 hk5 HWH HX HW HN HD HG HBB hc
      go_wp2_with (refine wpList_store_row rfl 30 (.tmp 2) (.tmp 42) rfl w.heap.size C rfl rfl 30 _ HX5.out HI30.out HS5.out HC1.out ?_)
      have hrow : (w5.setRow w.heap.size C).heap[w.heap.size]? = some (.cells C 30 (0,0)) := setRow_heap w5 w.heap.size _ C _ _ HX5.out
      have hcq : Chg w.heap.size w5 (w5.setRow w.heap.size C) := ⟨rfl,rfl,rfl,by simp [World.setRow],fun j _ hj => setRow_other w5 w.heap.size j C hj⟩
      have q : Kp ycI w5 (w5.setRow w.heap.size C) := Kp.chg HX5.out hcq _ (by decide)
      refine bodyPost_ret (results_cell_row rfl _ _ w.heap.size 30 C (0,0) _ rfl hrow Tryz.underlying30 rfl HI30.out) rfl ?_
      exact ⟨HW5.out.trans (hcq.below hNw HN5.out),Or.inr ⟨m,by rw [HM.out,HM2.out],by rw [HC.out],DrG.kpM HM1.out q⟩⟩
     ·have HM : Hid (rM l = .error 4) := by
       unfold Hid
       rw [ymH HF2.out HS2.out,if_neg (by unfold drV; dsimp only; rw [List.length_map]; exact heq)]
      have hne : ((f.n : Int) == (d.funcs.length : Int)) = false := by
       rw [beq_eq_false_iff_ne,<- HG.out.ft.len]
       omega
      have HWH := kZz (xuN D wr d f HD.out hne)
      go_wp2_with fail
      refine HWH.out.mono ?_
      rintro r w5 ⟨rfl,hb5⟩
      exact ⟨rfl,HW.out.trans (hb5.mono HN.out),Or.inl ⟨4,HM.out,rfl⟩⟩
    | cons b lk =>
     have hsz : 0 < S.size := by
      rw [<- xaY,hS1]
      simp
     have hemp : S.toList.isEmpty = false := xpV S hsz
     have HBY : Hid (Bts (b :: lk)) := HBB.out.byte
     have hb256 := HBY.out b (by simp)
     obtain ⟨hb0,hb1⟩ := hb256
     have HNX := kZz (xxP P (b :: lk) wr HBB.out)
     clear hS1 hS2 hS3 hsz HB
     go_wp2_with fail
     refine HNX.out.mono ?_
     intro r w5 ho
     obtain ⟨c5,⟨v,rfl,rfl⟩,hb5⟩ := ho.got (show xfH (b :: lk) = .ok (b,lk) from rfl)
     have HB5 : Hid (BR w5 P lk) := hb5
     have q5 : Kp (fun t => t != 40) wr w5 := Kp.reader HBB.out c5 _ (by decide)
     have HD5 : Hid (DB w5 D d f) := HD.out.chg c5 hPD
     have HG5 : Hid (DrG w5 N d f) := HG.out.kp (q5.weak (by intro t ht; unfold xdP at ht; simp at ht; simp [ht.1]))
     have HX5 := kZz (HX.out.chg c5 hQP)
     have HW5 : Hid (Below N w0 w5) := xaD HW.out c5 hNP HN.out
     have HN5 : Hid (N <= w5.heap.size) := Nat.le_trans HN.out c5.size
     clear ho hb5 q5 c5 HBB HD HG HX HW HN HNX hc hemp
     by_cases hr : 1 <= b /\ b <= 11
     ·obtain ⟨hr1,hr2⟩ := hr
      have hd1 : decide (1 <= b) = true := decide_eq_true hr1
      have hd2 : decide (b <= 11) = true := decide_eq_true hr2
      go_wp2_with fail
      refine (xbB _ _).mono ?_
      rintro r w5 ⟨rfl,rfl⟩
      by_cases hgt : (last : Int) < b
      ·have hd3 : decide ((last : Int) < b) = true := decide_eq_true hgt
       go_wp2_with fail
       refine (xbB _ _).mono ?_
       rintro r w5 ⟨rfl,rfl⟩
       clear hd1 hd2 hd3
       go_wp2_with fail
       refine (ycW P lk _ HB5.out).mono ?_
       intro r w6 ho
       rcases hx : rIn lk with x | ⟨s,lm⟩
       ·obtain ⟨c,rfl⟩ := ho.err hx
        exact ⟨rfl,xaD HW5.out c hNP HN5.out,Or.inl ⟨x,yfD HF2.out (HS.out.trans (xmN ⟨hr1,hr2⟩ hgt (xlE hx))),rfl⟩⟩
       obtain ⟨c6,⟨v,rfl,I,rfl,hI,hbI⟩,hb6⟩ := ho.got hx
       have HIN : Hid (∀ (p : Rd DrV),xdE p lk = xyY (xeW p s) lm) := fun p => xlF hx
       have HB6 : Hid (BR w6 P lm) := hb6
       have HI6 : Hid (BR w6 I s) := hbI
       have q6 : Kp (fun t => t != 40) w5 w6 := Kp.reader HB5.out c6 _ (by decide)
       have HD6 : Hid (DB w6 D d f) := HD5.out.chg c6 hPD
       have HG6 : Hid (DrG w6 N d f) := HG5.out.kp (q6.weak (by intro t ht; unfold xdP at ht; simp at ht; simp [ht.1]))
       have HX6 := kZz (HX5.out.chg c6 hQP)
       have HW6 : Hid (Below N w0 w6) := xaD HW5.out c6 hNP HN5.out
       have HN6 : Hid (N <= w6.heap.size) := Nat.le_trans HN5.out c6.size
       have hNI : N <= I := Nat.le_trans HN5.out hI
       have hQI : w.heap.size ≠ I := by
        intro e
        have h1 := xaU HX5.out
        omega
       have hPI : P ≠ I := by
        have h1 := HB5.out.lt
        omega
       have hDI : D ≠ I := HD6.out.apart HI6.out
       clear ho hx hb6 hbI q6 c6 HB5 HD5 HG5 HX5 HW5 HN5 hI
       obtain ⟨bn,rfl⟩ : ∃ bn : Nat,b = (bn : Int) := ⟨b.toNat,by omega⟩
       have HFL := kZz (yaF D I N s w0 w6 HA0.out hN4 hNI ⟨HW6.out,HN6.out⟩ d f HD6.out HG6.out HI6.out bn (by omega) (by omega))
       go_wp2_with fail
       refine HFL.out.mono ?_
       clear HFL
       rintro r w7 ⟨c7,⟨e,he,rfl⟩ | ⟨d',f',s',hf',rfl,hD7,hG7,hI7⟩⟩
       ·refine ⟨rfl,HW6.out.trans (c7.below hND hNI HN6.out),Or.inl ⟨e,yfD HF2.out (HS.out.trans (xmN ⟨hr1,hr2⟩ hgt ?_)),rfl⟩⟩
        rw [Int.toNat_natCast,HIN.out,xkA he]
        rfl
       have HD7 : Hid (DB w7 D d' f') := hD7
       have HG7 : Hid (DrG w7 N d' f') := hG7
       have HI7 : Hid (BR w7 I s') := hI7
       have HW7 : Hid (Below N w0 w7) := HW6.out.trans (c7.below hND hNI HN6.out)
       have HN7 : Hid (N <= w7.heap.size) := Nat.le_trans HN6.out c7.size
       have HB7 : Hid (BR w7 P lm) := by
        obtain ⟨T,h1,h2,h3⟩ := HB6.out
        refine ⟨T,h1,h2,?_⟩
        unfold BS at h3 ⊢
        rw [c7.block P (xaU h3) hPD.symm hPI]
        exact h3
       have HX7 : Hid (X11 w7 w.heap.size (.slice none 0 0) (.slice none 0 0) (.slice none 0 0) (.int .i64 0) (.int .i64 0) (.int .i64 0) (.slice none 0 0) (.slice none 0 0) (.int .i64 0) (.slice none 0 0) (.slice none 0 0)) := by
        have h3 : w6.heap[w.heap.size]? = some (.cells #[.slice none 0 0,.slice none 0 0,.slice none 0 0,.int .i64 0,.int .i64 0,.int .i64 0,.slice none 0 0,.slice none 0 0,.int .i64 0,.slice none 0 0,.slice none 0 0] 30 (0,0)) := HX6.out
        have h4 : w6.heap[D]? = some (.cells (drC d f) 85 (0,0)) := HD6.out
        show w7.heap[w.heap.size]? = some (.cells #[.slice none 0 0,.slice none 0 0,.slice none 0 0,.int .i64 0,.int .i64 0,.int .i64 0,.slice none 0 0,.slice none 0 0,.int .i64 0,.slice none 0 0,.slice none 0 0] 30 (0,0))
        rw [c7.block w.heap.size (xaU h3) (fun e => ?_) hQI]
        ·exact h3
        ·rw [<- e,h3] at h4
         simp at h4
       have HFF : Hid (xdD bn (drV d f) s = .ok (drV d' f',s')) := hf'
       clear hf' hD7 hG7 hI7 c7 HD6 HG6 HX6 HB6 HI6 HW6 HN6
       go_wp2_with fail
       refine (ymG I s' _ HI7.out).mono ?_
       rintro r w7 ⟨rfl,hr7⟩
       by_cases hs' : s' = []
       ·rw [if_pos hs'] at hr7
        subst hr7
        have HS7 : Hid (rSecs 0 DrV.zero li = rSecs bn (drV d' f') lm) := by
         have h1 : xdE (xdD (bn : Int).toNat (drV d f)) lk = .ok (drV d' f',lm) := by
          rw [Int.toNat_natCast,HIN.out,xoD (by rw [HFF.out,hs'])]
          rfl
         have h2 := HS.out.trans (xzH ⟨hr1,hr2⟩ hgt h1)
         rw [Int.toNat_natCast] at h2
         exact h2
        clear HS HFF HIN HBY hs'
        go_wp2
        go_roundw
        case rel => exact ⟨_,_,_,_,_,_,_,_,_,_,_,_,_,_,_,_,_,_,_,_,_,_,_,_,_,_,_,_,_,⟨bn,d',f',lm,rfl,by omega,HS7,HB7,HD7,HG7,HW7,HN7,HX7⟩,rfl⟩
        case measure => simp [intOf]; omega
       ·rw [if_neg hs'] at hr7
        subst hr7
        refine ⟨rfl,HW7.out,Or.inl ⟨4,yfD HF2.out (HS.out.trans (xmN ⟨hr1,hr2⟩ hgt ?_)),rfl⟩⟩
        rw [Int.toNat_natCast,HIN.out,xmT HFF.out hs']
        rfl
      ·have hd3 : decide ((last : Int) < b) = false := decide_eq_false hgt
       have HGT : Hid (b <= (last : Int)) := by unfold Hid; omega
       clear hgt
       go_wp2_with fail
       refine (xbA _ _).mono ?_
       rintro r w5 ⟨rfl,rfl⟩
       exact ⟨rfl,HW5.out,Or.inl ⟨4,yfD HF2.out (HS.out.trans (ycC ⟨hr1,hr2⟩ (by have := HGT.out; omega))),rfl⟩⟩
     ·by_cases hr1 : 1 <= b
      ·have hd1 : decide (1 <= b) = true := decide_eq_true hr1
       have hd2 : decide (b <= 11) = false := decide_eq_false (fun h => hr ⟨hr1,h⟩)
       go_wp2_with fail
       refine (xbA _ _).mono ?_
       rintro r w5 ⟨rfl,rfl⟩
       exact ⟨rfl,HW5.out,Or.inl ⟨6,yfD HF2.out (HS.out.trans (xvH hr)),rfl⟩⟩
      ·have hd1 : decide (1 <= b) = false := decide_eq_false hr1
       go_wp2_with fail
       refine (xbA _ _).mono ?_
       rintro r w5 ⟨rfl,rfl⟩
       exact ⟨rfl,HW5.out,Or.inl ⟨6,yfD HF2.out (HS.out.trans (xvH hr)),rfl⟩⟩
section
variable {w : World} {X : Nat} {c0 c1 c2 c3 c4 c5 c6 c7 c8 c9 c10 : Value}
theorem X11.same0 (h : X11 w X c0 c1 c2 c3 c4 c5 c6 c7 c8 c9 c10) : w.setCell ⟨X,0,none⟩ c0 = w := by
 unfold X11 at h
 rw [setCell_eq_setRow w X 0 #[c0,c1,c2,c3,c4,c5,c6,c7,c8,c9,c10] 30 (0,0) _ h]
 exact setRow_self w X #[c0,c1,c2,c3,c4,c5,c6,c7,c8,c9,c10] 30 (0,0) h
theorem X11.same1 (h : X11 w X c0 c1 c2 c3 c4 c5 c6 c7 c8 c9 c10) : w.setCell ⟨X,1,none⟩ c1 = w := by
 unfold X11 at h
 rw [setCell_eq_setRow w X 1 #[c0,c1,c2,c3,c4,c5,c6,c7,c8,c9,c10] 30 (0,0) _ h]
 exact setRow_self w X #[c0,c1,c2,c3,c4,c5,c6,c7,c8,c9,c10] 30 (0,0) h
theorem X11.same2 (h : X11 w X c0 c1 c2 c3 c4 c5 c6 c7 c8 c9 c10) : w.setCell ⟨X,2,none⟩ c2 = w := by
 unfold X11 at h
 rw [setCell_eq_setRow w X 2 #[c0,c1,c2,c3,c4,c5,c6,c7,c8,c9,c10] 30 (0,0) _ h]
 exact setRow_self w X #[c0,c1,c2,c3,c4,c5,c6,c7,c8,c9,c10] 30 (0,0) h
theorem X11.same3 (h : X11 w X c0 c1 c2 c3 c4 c5 c6 c7 c8 c9 c10) : w.setCell ⟨X,3,none⟩ c3 = w := by
 unfold X11 at h
 rw [setCell_eq_setRow w X 3 #[c0,c1,c2,c3,c4,c5,c6,c7,c8,c9,c10] 30 (0,0) _ h]
 exact setRow_self w X #[c0,c1,c2,c3,c4,c5,c6,c7,c8,c9,c10] 30 (0,0) h
theorem X11.same4 (h : X11 w X c0 c1 c2 c3 c4 c5 c6 c7 c8 c9 c10) : w.setCell ⟨X,4,none⟩ c4 = w := by
 unfold X11 at h
 rw [setCell_eq_setRow w X 4 #[c0,c1,c2,c3,c4,c5,c6,c7,c8,c9,c10] 30 (0,0) _ h]
 exact setRow_self w X #[c0,c1,c2,c3,c4,c5,c6,c7,c8,c9,c10] 30 (0,0) h
theorem X11.same5 (h : X11 w X c0 c1 c2 c3 c4 c5 c6 c7 c8 c9 c10) : w.setCell ⟨X,5,none⟩ c5 = w := by
 unfold X11 at h
 rw [setCell_eq_setRow w X 5 #[c0,c1,c2,c3,c4,c5,c6,c7,c8,c9,c10] 30 (0,0) _ h]
 exact setRow_self w X #[c0,c1,c2,c3,c4,c5,c6,c7,c8,c9,c10] 30 (0,0) h
theorem X11.same6 (h : X11 w X c0 c1 c2 c3 c4 c5 c6 c7 c8 c9 c10) : w.setCell ⟨X,6,none⟩ c6 = w := by
 unfold X11 at h
 rw [setCell_eq_setRow w X 6 #[c0,c1,c2,c3,c4,c5,c6,c7,c8,c9,c10] 30 (0,0) _ h]
 exact setRow_self w X #[c0,c1,c2,c3,c4,c5,c6,c7,c8,c9,c10] 30 (0,0) h
theorem X11.same7 (h : X11 w X c0 c1 c2 c3 c4 c5 c6 c7 c8 c9 c10) : w.setCell ⟨X,7,none⟩ c7 = w := by
 unfold X11 at h
 rw [setCell_eq_setRow w X 7 #[c0,c1,c2,c3,c4,c5,c6,c7,c8,c9,c10] 30 (0,0) _ h]
 exact setRow_self w X #[c0,c1,c2,c3,c4,c5,c6,c7,c8,c9,c10] 30 (0,0) h
theorem X11.same8 (h : X11 w X c0 c1 c2 c3 c4 c5 c6 c7 c8 c9 c10) : w.setCell ⟨X,8,none⟩ c8 = w := by
 unfold X11 at h
 rw [setCell_eq_setRow w X 8 #[c0,c1,c2,c3,c4,c5,c6,c7,c8,c9,c10] 30 (0,0) _ h]
 exact setRow_self w X #[c0,c1,c2,c3,c4,c5,c6,c7,c8,c9,c10] 30 (0,0) h
theorem X11.same9 (h : X11 w X c0 c1 c2 c3 c4 c5 c6 c7 c8 c9 c10) : w.setCell ⟨X,9,none⟩ c9 = w := by
 unfold X11 at h
 rw [setCell_eq_setRow w X 9 #[c0,c1,c2,c3,c4,c5,c6,c7,c8,c9,c10] 30 (0,0) _ h]
 exact setRow_self w X #[c0,c1,c2,c3,c4,c5,c6,c7,c8,c9,c10] 30 (0,0) h
theorem X11.same10 (h : X11 w X c0 c1 c2 c3 c4 c5 c6 c7 c8 c9 c10) : w.setCell ⟨X,10,none⟩ c10 = w := by
 unfold X11 at h
 rw [setCell_eq_setRow w X 10 #[c0,c1,c2,c3,c4,c5,c6,c7,c8,c9,c10] 30 (0,0) _ h]
 exact setRow_self w X #[c0,c1,c2,c3,c4,c5,c6,c7,c8,c9,c10] 30 (0,0) h
end
theorem xuT (p q : Addr) (w : World) :
  CallsD Tryz.prog 7 #[.pointer (some p),.pointer (some q)] .returning w fun e u' w' => e = .returned (.tuple #[]) /\ u' = .returning /\ w' = w := by
 refine callsD_of_wpS Tryz.func7 rfl fun c₀ cs hu => ?_
 apply wpS_seq
 apply wpS_region
 simp [wpOpsS,go_sem,recoverD,hu,Tryz.ntmps7,Exit.thenS]
 apply wpS_seq
 apply wpS_region
 simp [wpOpsS,go_sem,Exit.thenS]
 refine wpS_cond (t := false) (by simp [Act.eval,Array.replicate]) ?_
 simp only [Bool.false_eq_true,if_false]
 refine wpS_of_wp (wp_skip ?_)
 cases c₀
 simp_all [bodyPostS,results,Tryz.results7]
theorem xfA (M E : Nat) (hME : M ≠ E) (x : Int) (w : World) (hM : X11 w M (.slice none 0 0) (.slice none 0 0) (.slice none 0 0) (.int .i64 0) (.int .i64 0) (.int .i64 0) (.slice none 0 0) (.slice none 0 0) (.int .i64 0) (.slice none 0 0) (.slice none 0 0)) (hE : w.heap[E]? = some (.cells #[.int .i64 0] 31 (0,0))) :
  CallsD Tryz.prog 7 #[.pointer (some ⟨M,0,none⟩),.pointer (some ⟨E,0,none⟩)] (.panicking [{ v := .iface 31 (.int .i64 x),recovered := false }]) w fun e u' w' =>
   e = .returned (.tuple #[]) /\ u' = .panicking [{ v := .iface 31 (.int .i64 x),recovered := true }] /\ w'.heap[M]? = w.heap[M]? /\ w'.heap[E]? = some (.cells #[.int .i64 x] 31 (0,0)) /\ (∀ N,N <= M -> N <= E -> Below N w w') := by
 refine callsD_of_wpS Tryz.func7 rfl fun c₀ cs hu => ?_
 apply wpS_seq
 apply wpS_region
 simp [wpOpsS,go_sem,recoverD,hu,Tryz.ntmps7,Exit.thenS]
 apply wpS_seq
 apply wpS_region
 simp [wpOpsS,go_sem,Exit.thenS]
 refine wpS_cond (t := true) (by simp [Act.eval,Array.replicate]) ?_
 simp only [if_true]
 refine wpS_of_wp ?_
 have hst : (Instr.storeAt 30 (.pointer (some ⟨M,0,none⟩)) (.agg #[.slice none 0 0,.slice none 0 0,.slice none 0 0,.int .i64 0,.int .i64 0,.int .i64 0,.slice none 0 0,.slice none 0 0,.int .i64 0,.slice none 0 0,.slice none 0 0])).run Tryz.prog w.drew = .ok () w.drew := by
  simp only [Instr.storeAt,Instr.sureAddr,Sem.run_bind,Sem.run_pure,Result.andThen_ok,run_storeVar_row (P := Tryz.prog) w.drew M 30 30 #[.slice none 0 0,.slice none 0 0,.slice none 0 0,.int .i64 0,.int .i64 0,.int .i64 0,.slice none 0 0,.slice none 0 0,.int .i64 0,.slice none 0 0,.slice none 0 0] #[.slice none 0 0,.slice none 0 0,.slice none 0 0,.int .i64 0,.int .i64 0,.int .i64 0,.slice none 0 0,.slice none 0 0,.int .i64 0,.slice none 0 0,.slice none 0 0] hM xdO rfl (by simp [Value.oneCell'])]
  rw [setRow_self w.drew M #[.slice none 0 0,.slice none 0 0,.slice none 0 0,.int .i64 0,.int .i64 0,.int .i64 0,.slice none 0 0,.slice none 0 0,.int .i64 0,.slice none 0 0,.slice none 0 0] 30 (0,0) hM]
 have hcE : w.cell? ⟨E,0,none⟩ = some (.int .i64 0) := by simp [World.cell?,hE]
 have hfE : w.frozen? ⟨E,0,none⟩ = false := by simp [World.frozen?,hE]
 have hta : ∀ W : World,(Instr.typeAssert (.iface 31 (.int .i64 x)) 20 31 false).run Tryz.prog W = .ok (.int .i64 x) W := fun W => by kernel_rfl
 obtain ⟨x0,x1,x2,x3,x4,x5,x6,x7,x8,x9,x10⟩ := hM.cell
 have g0 := hM.frozen 0
 have g1 := hM.frozen 1
 have g2 := hM.frozen 2
 have g3 := hM.frozen 3
 have g4 := hM.frozen 4
 have g5 := hM.frozen 5
 have g6 := hM.frozen 6
 have g7 := hM.frozen 7
 have g8 := hM.frozen 8
 have g9 := hM.frozen 9
 have g10 := hM.frozen 10
 have hEM : E ≠ M := fun e => hME e.symm
 have HM := kZz hM
 have HE := kZz hE
 clear hM hE
 change Code.wp Tryz.prog _ _ { tmps := #[.pointer (some ⟨M,0,none⟩),.pointer (some ⟨E,0,none⟩),.iface 31 (.int .i64 x),.iface 31 (.int .i64 x),.iface 31 (.int .i64 x),.bool true,undef,undef,undef],defers := [] } w
 go_region
 rw [HM.out.same0,HM.out.same1,HM.out.same2,HM.out.same3,HM.out.same4,HM.out.same5,HM.out.same6,HM.out.same7,HM.out.same8,HM.out.same9,HM.out.same10]
 have hE1 := HE.out
 refine ⟨rfl,_,rfl,.tuple #[],by simp [results,Tryz.results7],rfl,rfl,?_,?_,fun N h1 h2 => ?_⟩
 ·exact Below.heap_setCell w ⟨E,0,none⟩ _ M hME
 ·simp [World.drew,World.setCell,Array.getElem?_modify,hE1]
 ·have b1 := (Below.refl N w).setCell (p := ⟨E,0,none⟩) h2 (.int .i64 x)
  exact ⟨b1.os,b1.tape,b1.output,b1.size,b1.block⟩
theorem xgF (tmps : Array Value) (W : World) (M E : Nat) (C : Array Value) (x : Int) (h2 : tmps.getD 2 undef = .pointer (some ⟨M,0,none⟩)) (h3 : tmps.getD 3 undef = .pointer (some ⟨E,0,none⟩)) (hM : W.heap[M]? = some (.cells C 30 (0,0))) (hE : W.heap[E]? = some (.cells #[.int .i64 x] 31 (0,0))) (hC : (Tryz.prog.info? 30).map (·.size) = some C.size) :
  (results Tryz.f4 tmps).run Tryz.prog W = .ok (.tuple #[.agg C,.int .i64 x]) W := by
 have h2' : tmps[2]?.getD undef = .pointer (some ⟨M,0,none⟩) := by simpa using h2
 have h3' : tmps[3]?.getD undef = .pointer (some ⟨E,0,none⟩) := by simpa using h3
 have hc : W.cell? ⟨E,0,none⟩ = some (.int .i64 x) := by simp [World.cell?,hE]
 have hl := run_loadVar_row (P := Tryz.prog) W M 30 30 C (0,0) _ hM Tryz.underlying30 rfl hC
 have he : (loadVar 31 ⟨E,0,none⟩).run Tryz.prog W = .ok (.int .i64 x) W := by simp [go_sem,hc]
 simp [results,Tryz.results4,h2',h3',asAddr,hl,he]
def okS (S : TypeId -> Bool) : Bool := S 67 && S 71 && S 55 && S 75 && S 78 && S 62 && S 82 && S 57 && S 3 && S 2 && S 100
theorem ModG.kpS {w w' : World} {N : Nat} {d : ModD} {S : TypeId -> Bool} (h : ModG w N d) (q : Kp S w w') (hS : okS S = true) : ModG w' N d := by
 unfold okS at hS
 simp only [Bool.and_eq_true] at hS
 obtain ⟨⟨⟨⟨⟨⟨⟨⟨⟨⟨h1,h2⟩,h3⟩,h4⟩,h5⟩,h6⟩,h7⟩,h8⟩,h9⟩,h10⟩,h11⟩ := hS
 exact ⟨h.types.kp q h1 (fun _ hd => hd.kp q h8),h.imports.kp q h2 (fun _ hd => hd),h.funcs.kp q h3 (fun _ hd => hd.kp q h8 h10 h11),h.globals.kp q h4 (fun _ hd => hd),h.exports.kp q h5 (fun _ hd => hd),h.elems.kp q h6 (fun _ hd => hd.kp q h9),h.data.kp q h7 (fun _ hd => hd),LR.nil _ _ _ _ _ _,h.table,h.pages,h.most,h.start⟩
def ymF (N : Nat) (w : World) (l : List Int) (r : Ending) (w' : World) : Prop := Below w.heap.size w w' /\ ((∃ e,xmM l = .error e /\ r = .returned (.tuple #[.agg #[.slice none 0 0,.slice none 0 0,.slice none 0 0,.int .i64 0,.int .i64 0,.int .i64 0,.slice none 0 0,.slice none 0 0,.int .i64 0,.slice none 0 0,.slice none 0 0],.int .i64 e])) \/ ∃ (m : ModD) (C : Array Value),Hid (C = mcA m) /\ xmM l = .ok m.val /\ r = .returned (.tuple #[.agg C,.int .i64 0]) /\ ModG w' N m)
theorem xzK (s : ByteArray) (hs : s.size <= maxLen) (w : World) (hA : Amb w) :
  Calls Tryz.prog 4 #[.string s] w (ymF (w.heap.size + 2) w (xaX s)) := by
 unfold maxLen at hs
 have b1 : Below w.heap.size w (w.alloc (.cells #[.slice none 0 0,.slice none 0 0,.slice none 0 0,.int .i64 0,.int .i64 0,.int .i64 0,.slice none 0 0,.slice none 0 0,.int .i64 0,.slice none 0 0,.slice none 0 0] 30)) := (Below.refl _ _).alloc (Nat.le_refl _) _
 have hs1 : (w.alloc (.cells #[.slice none 0 0,.slice none 0 0,.slice none 0 0,.int .i64 0,.int .i64 0,.int .i64 0,.slice none 0 0,.slice none 0 0,.int .i64 0,.slice none 0 0,.slice none 0 0] 30)).heap.size = w.heap.size + 1 := by simp
 obtain ⟨W2,hW2⟩ : ∃ W2,W2 = (w.alloc (.cells #[.slice none 0 0,.slice none 0 0,.slice none 0 0,.int .i64 0,.int .i64 0,.int .i64 0,.slice none 0 0,.slice none 0 0,.int .i64 0,.slice none 0 0,.slice none 0 0] 30)).alloc (.cells #[.int .i64 0] 31) := ⟨_,rfl⟩
 have b2 : Below w.heap.size w W2 := by rw [hW2]; exact b1.alloc (by rw [hs1]; omega) _
 have hs2 : W2.heap.size = w.heap.size + 2 := by rw [hW2]; simp
 have HM2 : Hid (X11 W2 w.heap.size (.slice none 0 0) (.slice none 0 0) (.slice none 0 0) (.int .i64 0) (.int .i64 0) (.int .i64 0) (.slice none 0 0) (.slice none 0 0) (.int .i64 0) (.slice none 0 0) (.slice none 0 0)) := by
  show W2.heap[w.heap.size]? = some (.cells #[.slice none 0 0,.slice none 0 0,.slice none 0 0,.int .i64 0,.int .i64 0,.int .i64 0,.slice none 0 0,.slice none 0 0,.int .i64 0,.slice none 0 0,.slice none 0 0] 30 (0,0))
  rw [hW2,Below.heap_alloc _ _ _ (by rw [hs1]; omega)]
  exact xaZ _ _
 have HE2 : Hid (W2.heap[w.heap.size + 1]? = some (.cells #[.int .i64 0] 31 (0,0))) := by
  have := xaZ (w.alloc (.cells #[.slice none 0 0,.slice none 0 0,.slice none 0 0,.int .i64 0,.int .i64 0,.int .i64 0,.slice none 0 0,.slice none 0 0,.int .i64 0,.slice none 0 0,.slice none 0 0] 30)) (.cells #[.int .i64 0] 31)
  rw [hs1] at this
  rw [hW2]
  exact this
 have HB2 : Hid (Below w.heap.size w W2) := b2
 have HA2 : Hid (Amb W2) := hA.below b2
 have h4 := hA.2.2
 have HIZ : Hid ((Tryz.prog.info? 30).map (·.size) = some (#[.slice none 0 0,.slice none 0 0,.slice none 0 0,.int .i64 0,.int .i64 0,.int .i64 0,.slice none 0 0,.slice none 0 0,.int .i64 0,.slice none 0 0,.slice none 0 0] : Array Value).size) := xdO
 have HW2 : Hid (W2 = (w.alloc (.cells #[.slice none 0 0,.slice none 0 0,.slice none 0 0,.int .i64 0,.int .i64 0,.int .i64 0,.slice none 0 0,.slice none 0 0,.int .i64 0,.slice none 0 0,.slice none 0 0] 30)).alloc (.cells #[.int .i64 0] 31)) := hW2
 have HS2 : Hid (W2.heap.size = w.heap.size + 2) := hs2
 clear hA b1 b2 hs1 hW2
 by_cases hlen : s.size <= 4096
 ·have hd : decide ((s.size : Int) <= 4096) = true := decide_eq_true (by omega)
  have bR : Below W2.heap.size W2 (W2.alloc (.cells #[.string s] 40)) := (Below.refl _ _).alloc (Nat.le_refl _) _
  have HBR : Hid (BR (W2.alloc (.cells #[.string s] 40)) (w.heap.size + 2) (xaX s)) := by
   have := xaZ W2 (.cells #[.string s] 40)
   rw [hs2] at this
   exact ⟨s,rfl,hlen,this⟩
  have HRM := kZz (xlO (w.heap.size + 2) (w.heap.size + 2) (xaX s) W2 (W2.alloc (.cells #[.string s] 40)) HA2.out (by omega) (Nat.le_refl _) ⟨bR.mono (by omega),by have := bR.size; unfold hsz; omega⟩ HBR.out)
  have HEQ : Hid (xmM (xaX s) = rM (xaX s)) := xvF _ (by rw [xaY]; exact hlen)
  clear bR HBR hs2
  rw [HW2.out] at HRM
  go_enter_defers Tryz.func4,Tryz.ntmps4
  go_wp2_with fail
  refine (xbB _ _).mono ?_
  rintro r w9 ⟨rfl,rfl⟩
  go_wp2_with fail
  refine HRM.out.mono ?_
  rw [<- HW2.out]
  rintro r w5 ⟨b5,⟨e,he,rfl⟩ | ⟨m,he,rfl,hg⟩⟩
  ·have hM5 : X11 w5 w.heap.size (.slice none 0 0) (.slice none 0 0) (.slice none 0 0) (.int .i64 0) (.int .i64 0) (.int .i64 0) (.slice none 0 0) (.slice none 0 0) (.int .i64 0) (.slice none 0 0) (.slice none 0 0) := by
    show w5.heap[w.heap.size]? = _
    rw [b5.block w.heap.size (by omega)]
    exact HM2.out
   have hE5 : w5.heap[w.heap.size + 1]? = some (.cells #[.int .i64 0] 31 (0,0)) := by
    rw [b5.block (w.heap.size + 1) (by omega)]
    exact HE2.out
   have HX : Hid (xmM (xaX s) = .error e) := HEQ.out.trans he
   have HB5 : Hid (Below w.heap.size w w5) := HB2.out.trans (b5.mono (by omega))
   refine leaves_cons (f := 7) (args := #[.pointer (some ⟨w.heap.size,0,none⟩),.pointer (some ⟨w.heap.size + 1,0,none⟩)]) (by simp) (by simp [go_sem]) ?_
   refine (xfA w.heap.size (w.heap.size + 1) (by omega) e _ hM5 hE5).mono ?_
   rintro e1 u' w6 ⟨rfl,rfl,hM6,hE6,hB6⟩
   refine ⟨.tuple #[.agg #[.slice none 0 0,.slice none 0 0,.slice none 0 0,.int .i64 0,.int .i64 0,.int .i64 0,.slice none 0 0,.slice none 0 0,.int .i64 0,.slice none 0 0,.slice none 0 0],.int .i64 e],xgF _ w6 w.heap.size (w.heap.size + 1) #[.slice none 0 0,.slice none 0 0,.slice none 0 0,.int .i64 0,.int .i64 0,.int .i64 0,.slice none 0 0,.slice none 0 0,.int .i64 0,.slice none 0 0,.slice none 0 0] e rfl rfl (hM6.trans hM5) hE6 HIZ.out,HB5.out.trans (hB6 _ (Nat.le_refl _) (by omega)),Or.inl ⟨e,HX.out,rfl⟩⟩
  ·obtain ⟨C,HC⟩ : ∃ C : Array Value,Hid (C = mcA m) := ⟨_,rfl⟩
   rw [<- HC.out]
   have hM5 : X11 w5 w.heap.size (.slice none 0 0) (.slice none 0 0) (.slice none 0 0) (.int .i64 0) (.int .i64 0) (.int .i64 0) (.slice none 0 0) (.slice none 0 0) (.int .i64 0) (.slice none 0 0) (.slice none 0 0) := by
    show w5.heap[w.heap.size]? = _
    rw [b5.block w.heap.size (by omega)]
    exact HM2.out
   have hE5 : w5.heap[w.heap.size + 1]? = some (.cells #[.int .i64 0] 31 (0,0)) := by
    rw [b5.block (w.heap.size + 1) (by omega)]
    exact HE2.out
   have HX : Hid (xmM (xaX s) = .ok m.val) := HEQ.out.trans he
   have HB5 : Hid (Below w.heap.size w w5) := HB2.out.trans (b5.mono (by omega))
   have HG5 : Hid (ModG w5 (w.heap.size + 2) m) := hg
   have HM5 := kZz hM5
   have HE5 := kZz hE5
   have HCS : Hid (C.size = 11) := by unfold Hid; rw [HC.out]; rfl
   have HC1 : Hid (C.all (·.oneCell') = true) := by unfold Hid; rw [HC.out]; simp [mcA,Value.oneCell']
   have HI30 : Hid ((Tryz.prog.info? 30).map (·.size) = some C.size) := by unfold Hid; rw [HCS.out]; exact xdO
   have HS5 : Hid ((#[.slice none 0 0,.slice none 0 0,.slice none 0 0,.int .i64 0,.int .i64 0,.int .i64 0,.slice none 0 0,.slice none 0 0,.int .i64 0,.slice none 0 0,.slice none 0 0] : Array Value).size = C.size) := by unfold Hid; rw [HCS.out]; rfl
   have hrow : (w5.setRow w.heap.size C).heap[w.heap.size]? = some (.cells C 30 (0,0)) := setRow_heap w5 w.heap.size _ C _ _ hM5
   have hcq : Chg w.heap.size w5 (w5.setRow w.heap.size C) := ⟨rfl,rfl,rfl,by simp [World.setRow],fun j _ hj => setRow_other w5 w.heap.size j C hj⟩
   have hE6 : (w5.setRow w.heap.size C).heap[w.heap.size + 1]? = some (.cells #[.int .i64 0] 31 (0,0)) := by
    rw [hcq.block (w.heap.size + 1) (xaU hE5) (by omega)]
    exact hE5
   have hcE : (w5.setRow w.heap.size C).cell? ⟨w.heap.size + 1,0,none⟩ = some (.int .i64 0) := by simp [World.cell?,hE6]
   have hfE : (w5.setRow w.heap.size C).frozen? ⟨w.heap.size + 1,0,none⟩ = false := by simp [World.frozen?,hE6]
   have HRW := kZz hrow
   have HCQ := kZz hcq
   have HE6 := kZz hE6
   clear hg hM5 hE5 he b5 hrow hcq hE6 HRM
   obtain ⟨W6,hW6⟩ : ∃ W6,W6 = w5.setRow w.heap.size C := ⟨_,rfl⟩
   have HW6 : Hid (W6 = w5.setRow w.heap.size C) := hW6
   rw [<- hW6] at hcE hfE HRW HCQ HE6
   clear hW6
   go_wp2_with (refine wpList_store_row rfl 30 (.tmp 2) (.tmp 12) rfl w.heap.size C rfl rfl 30 _ HM5.out HI30.out HS5.out HC1.out ?_; rw [<- HW6.out])
   refine leaves_cons (f := 7) (args := #[.pointer (some ⟨w.heap.size,0,none⟩),.pointer (some ⟨w.heap.size + 1,0,none⟩)]) (by simp) (by simp [go_sem]) ?_
   refine (xuT _ _ _).mono ?_
   rintro e1 u' w7 ⟨rfl,rfl,rfl⟩
   have hc7 : Chg (w.heap.size + 1) W6 (W6.setCell ⟨w.heap.size + 1,0,none⟩ (.int .i64 0)) := Chg.set _ _ _ _
   have hrow7 : (W6.setCell ⟨w.heap.size + 1,0,none⟩ (.int .i64 0)).heap[w.heap.size]? = some (.cells C 30 (0,0)) := by
    rw [hc7.block w.heap.size (xaU HRW.out) (by omega)]
    exact HRW.out
   have hE7 : (W6.setCell ⟨w.heap.size + 1,0,none⟩ (.int .i64 0)).heap[w.heap.size + 1]? = some (.cells #[.int .i64 0] 31 (0,0)) := by
    have := HE6.out
    simp [World.setCell,Array.getElem?_modify,this]
   have hg7 : ModG (W6.setCell ⟨w.heap.size + 1,0,none⟩ (.int .i64 0)) (w.heap.size + 2) m := (HG5.out.kpS (Kp.chg HM5.out HCQ.out (fun t => t != 30) (by decide)) (by decide)).kpS (Kp.chg HE6.out hc7 (fun t => t != 31) (by decide)) (by decide)
   have z5 := HB5.out.size
   have z6 := HCQ.out.size
   refine ⟨.tuple #[.agg C,.int .i64 0],xgF _ _ w.heap.size (w.heap.size + 1) C 0 rfl rfl hrow7 hE7 HI30.out,HB5.out.trans ((HCQ.out.below (Nat.le_refl _) z5).trans (hc7.below (by omega) (by omega))),Or.inr ⟨m,C,HC,HX.out,rfl,hg7⟩⟩
 ·have hd : decide ((s.size : Int) <= 4096) = false := decide_eq_false (by omega)
  have HX : Hid (xmM (xaX s) = .error 2) := by unfold Hid xmM; rw [if_pos (by rw [xaY]; omega)]
  clear hs2
  rw [HW2.out] at HM2 HE2 HB2
  go_enter_defers Tryz.func4,Tryz.ntmps4
  go_wp2_with fail
  refine (xbA _ _).mono ?_
  rintro r w9 ⟨rfl,rfl⟩
  refine leaves_cons (f := 7) (args := #[.pointer (some ⟨w.heap.size,0,none⟩),.pointer (some ⟨w.heap.size + 1,0,none⟩)]) (by simp) (by simp [go_sem]) ?_
  refine (xfA w.heap.size (w.heap.size + 1) (by omega) 2 _ HM2.out HE2.out).mono ?_
  rintro e1 u' w6 ⟨rfl,rfl,hM6,hE6,hB6⟩
  refine ⟨.tuple #[.agg #[.slice none 0 0,.slice none 0 0,.slice none 0 0,.int .i64 0,.int .i64 0,.int .i64 0,.slice none 0 0,.slice none 0 0,.int .i64 0,.slice none 0 0,.slice none 0 0],.int .i64 2],xgF _ w6 w.heap.size (w.heap.size + 1) #[.slice none 0 0,.slice none 0 0,.slice none 0 0,.int .i64 0,.int .i64 0,.int .i64 0,.slice none 0 0,.slice none 0 0,.int .i64 0,.slice none 0 0,.slice none 0 0] 2 rfl rfl (hM6.trans HM2.out) hE6 HIZ.out,HB2.out.trans (hB6 _ (Nat.le_refl _) (by omega)),Or.inl ⟨2,HX.out,rfl⟩⟩
end Go.Proofs.YtmmjgdaamkdncaaGreatDoor
