import Derived.Test.YtmmjgdaamkdncaaGreatDoorABLaw
import Derived.Test.YtmmjgdaamkdncaaGreatDoorARC7
namespace Go.Proofs.YtmmjgdaamkdncaaGreatDoor
set_option maxHeartbeats 1000000
set_option maxRecDepth 1000000
open Go.RowKit
set_option linter.unusedVariables false
theorem xkC (s : ByteArray) (e : Int) (w : World)
  (HR : Hid (∀ w',Below w.heap.size w w' -> Calls Tryz.prog 4 #[.string s] w' fun r w'' => ∃ D : Array Value,r = .returned (.tuple #[.agg D,.int .i64 e]) /\ Hid ((Tryz.prog.info? 30).map (·.size) = some D.size) /\ Hid ((#[.slice none 0 0,.slice none 0 0,.slice none 0 0,.int .i64 0,.int .i64 0,.int .i64 0,.slice none 0 0,.slice none 0 0,.int .i64 0,.slice none 0 0,.slice none 0 0] : Array Value).size = D.size) /\ Hid (D.all (·.oneCell') = true) /\ Below w'.heap.size w' w'' /\
   Hid (∀ w3,Below w''.heap.size w'' w3 -> Below w.heap.size w w3 -> Calls Tryz.prog 5 #[.string s] w3 fun r w4 => ∃ E : Array Value,r = .returned (.tuple #[.agg E,.int .i64 e]) /\ Hid ((Tryz.prog.info? 30).map (·.size) = some E.size) /\ Hid ((#[.slice none 0 0,.slice none 0 0,.slice none 0 0,.int .i64 0,.int .i64 0,.int .i64 0,.slice none 0 0,.slice none 0 0,.int .i64 0,.slice none 0 0,.slice none 0 0] : Array Value).size = E.size) /\ Hid (E.all (·.oneCell') = true) /\ Below w3.heap.size w3 w4 /\
    Hid (∀ w5,Below w4.heap.size w4 w5 -> Below w''.heap.size w'' w5 -> Calls Tryz.prog 6 #[.agg D,.agg E] w5 fun r w6 => r = .returned (.bool true) /\ Below w5.heap.size w5 w6)))) :
  Calls Tryz.prog 3 #[.string s] w fun r w' => r = .returned (.bool true) /\ Below w.heap.size w w' := by
 go_enter Tryz.func3,Tryz.ntmps3
 go_wp2_with fail
 refine (HR.out _ (Below.refl _ _)).mono ?_
 rintro r w1 ⟨D,rfl,HID,HSD,HOD,b1,HRE⟩
 have HB1 : Hid (Below w.heap.size w w1) := b1
 clear b1 HR
 obtain ⟨W2,hW2⟩ : ∃ W,W = (w1.alloc (.cells #[.slice none 0 0,.slice none 0 0,.slice none 0 0,.int .i64 0,.int .i64 0,.int .i64 0,.slice none 0 0,.slice none 0 0,.int .i64 0,.slice none 0 0,.slice none 0 0] 30)).setRow w1.heap.size D := ⟨_,rfl⟩
 have hnr := xwP w1 #[.slice none 0 0,.slice none 0 0,.slice none 0 0,.int .i64 0,.int .i64 0,.int .i64 0,.slice none 0 0,.slice none 0 0,.int .i64 0,.slice none 0 0,.slice none 0 0] D 30
 rw [<- hW2] at hnr
 have HRow2 : Hid (W2.heap[w1.heap.size]? = some (.cells D 30 (0,0))) := hnr.1
 have HN2 : Hid (Below w1.heap.size w1 W2) := hnr.2
 have HZL2 : Hid (w1.heap.size < W2.heap.size) := (Array.getElem?_eq_some_iff.1 hnr.1).1
 have HZR2 : Hid ((w1.alloc (.cells #[.slice none 0 0,.slice none 0 0,.slice none 0 0,.int .i64 0,.int .i64 0,.int .i64 0,.slice none 0 0,.slice none 0 0,.int .i64 0,.slice none 0 0,.slice none 0 0] 30)).heap[w1.heap.size]? = some (.cells #[.slice none 0 0,.slice none 0 0,.slice none 0 0,.int .i64 0,.int .i64 0,.int .i64 0,.slice none 0 0,.slice none 0 0,.int .i64 0,.slice none 0 0,.slice none 0 0] 30 (0,0))) := xaZ _ _
 have HW2 := kZz hW2
 clear hnr hW2
 have HB2 : Hid (Below w.heap.size w W2) := HB1.out.trans (HN2.out.mono HB1.out.size)
 go_wp2_with (refine wpList_store_row rfl 30 (.tmp 3) (.tmp 10) rfl w1.heap.size D rfl rfl 30 _ HZR2.out HID.out HSD.out HOD.out ?_; rw [<- HW2.out])
 refine (HRE.out _ HN2.out HB2.out).mono ?_
 rintro r w3 ⟨E,rfl,HIE,HSE,HOE,b3,HSM⟩
 have HRow3 : Hid (w3.heap[w1.heap.size]? = some (.cells D 30 (0,0))) := (b3.block _ HZL2.out).trans HRow2.out
 have HN3 : Hid (Below w1.heap.size w1 w3) := HN2.out.trans (b3.mono HN2.out.size)
 have HB3 : Hid (Below w.heap.size w w3) := HB2.out.trans (b3.mono HB2.out.size)
 have HZL3 : Hid (w1.heap.size < w3.heap.size) := Nat.lt_of_lt_of_le HZL2.out b3.size
 clear b3 HRE HRow2 HB2 HN2 HZL2 HZR2 HW2
 obtain ⟨W4,hW4⟩ : ∃ W,W = (w3.alloc (.cells #[.slice none 0 0,.slice none 0 0,.slice none 0 0,.int .i64 0,.int .i64 0,.int .i64 0,.slice none 0 0,.slice none 0 0,.int .i64 0,.slice none 0 0,.slice none 0 0] 30)).setRow w3.heap.size E := ⟨_,rfl⟩
 have hnr := xwP w3 #[.slice none 0 0,.slice none 0 0,.slice none 0 0,.int .i64 0,.int .i64 0,.int .i64 0,.slice none 0 0,.slice none 0 0,.int .i64 0,.slice none 0 0,.slice none 0 0] E 30
 rw [<- hW4] at hnr
 have HRow4 : Hid (W4.heap[w3.heap.size]? = some (.cells E 30 (0,0))) := hnr.1
 have HN4 : Hid (Below w3.heap.size w3 W4) := hnr.2
 have HZL4 : Hid (w3.heap.size < W4.heap.size) := (Array.getElem?_eq_some_iff.1 hnr.1).1
 have HZR4 : Hid ((w3.alloc (.cells #[.slice none 0 0,.slice none 0 0,.slice none 0 0,.int .i64 0,.int .i64 0,.int .i64 0,.slice none 0 0,.slice none 0 0,.int .i64 0,.slice none 0 0,.slice none 0 0] 30)).heap[w3.heap.size]? = some (.cells #[.slice none 0 0,.slice none 0 0,.slice none 0 0,.int .i64 0,.int .i64 0,.int .i64 0,.slice none 0 0,.slice none 0 0,.int .i64 0,.slice none 0 0,.slice none 0 0] 30 (0,0))) := xaZ _ _
 have HW4 := kZz hW4
 clear hnr hW4
 have HN34 : Hid (Below w1.heap.size w1 W4) := HN3.out.trans (HN4.out.mono HN3.out.size)
 have HB4 : Hid (Below w.heap.size w W4) := HB3.out.trans (HN4.out.mono HB3.out.size)
 have HRowD : Hid (W4.heap[w1.heap.size]? = some (.cells D 30 (0,0))) := (HN4.out.block _ HZL3.out).trans HRow3.out
 go_wp2_with (first | (refine wpList_store_row rfl 30 (.tmp 5) (.tmp 15) rfl w3.heap.size E rfl rfl 30 _ HZR4.out HIE.out HSE.out HOE.out ?_; rw [<- HW4.out]) | (refine wpList_load_row rfl 30 (.tmp 3) rfl w1.heap.size rfl 30 D (0,0) _ HRowD.out Tryz.underlying30 rfl HID.out ?_) | (refine wpList_load_row rfl 30 (.tmp 5) rfl w3.heap.size rfl 30 E (0,0) _ HRow4.out Tryz.underlying30 rfl HIE.out ?_))
 refine (HSM.out _ HN4.out HN34.out).mono ?_
 rintro r w7 ⟨rfl,b7⟩
 have HB7 : Hid (Below w.heap.size w w7) := HB4.out.trans (b7.mono HB4.out.size)
 clear b7
 go_wp2
 go_ret
 exact ⟨rfl,HB7.out⟩
theorem xkB (s : ByteArray) (hs : s.size <= maxLen) (w : World) (hMx : MaxIn w) (hw4 : 4 <= w.heap.size) :
  Calls Tryz.prog 5 #[.string s] w fun r w' => Below w.heap.size w w' /\ ((∃ e,xmM (xaX s) = .error e /\ e ≠ 0 /\ r = .returned (.tuple #[.agg (mcA modZero),.int .i64 e])) \/ ∃ m : ModD,xmM (xaX s) = .ok m.val /\ r = .returned (.tuple #[.agg (mcA m),.int .i64 0]) /\ m.ok w') := by
 refine (xqI s hs w hMx hw4).mono ?_
 rintro r w' ⟨b,⟨e,he,rfl⟩ | ⟨m,C,hC,hm,rfl,hg⟩⟩
 ·exact ⟨b,Or.inl ⟨e,he,xvG _ he,by rw [xrC]⟩⟩
 ·exact ⟨b,Or.inr ⟨m,hm,by rw [hC.out],hg.ok⟩⟩
theorem xnT (s : ByteArray) (hs : s.size <= 140737488355328) (w : World) (hA : Amb w) (hM : MaxIn w) :
  Calls Tryz.prog 3 #[.string s] w fun r w' => r = .returned (.bool true) /\ Below w.heap.size w w' := by
 have hsm : s.size <= maxLen := by unfold maxLen; omega
 have h4 : 4 <= w.heap.size := hA.2.2
 have same : ∀ (m n : ModD) (w' : World),m.ok w' -> n.ok w' -> m.val = n.val -> Calls Tryz.prog 6 #[.agg (mcA m),.agg (mcA n)] w' fun r w'' => r = .returned (.bool true) /\ Below w'.heap.size w' w'' := by
  intro m n w' h1 h2 h
  refine (xlW m n w' h1 h2).mono ?_
  rintro r w4 ⟨e,rfl,he,b4⟩
  rw [he.2 h]
  exact ⟨rfl,b4⟩
 cases hr : xmM (xaX s) with
 | error e =>
  refine xkC s e w (fun w' b => (xrS s hsm w' (hA.below b)).mono ?_)
  rintro r w2 ⟨b2,h⟩
  rw [hr] at h
  rcases h with ⟨e',he,_,rfl⟩ | ⟨m,hm,_⟩
  ·simp only [Except.error.injEq] at he
   subst he
   refine ⟨mcA modZero,rfl,xdO,rfl,xzC _,b2,fun w3 b3 b03 => (xkB s hsm w3 (hM.below b03) (Nat.le_trans h4 b03.size)).mono ?_⟩
   rintro r w4 ⟨b4,h⟩
   rw [hr] at h
   rcases h with ⟨e',he,_,rfl⟩ | ⟨m,hm,_⟩
   ·simp only [Except.error.injEq] at he
    subst he
    exact ⟨mcA modZero,rfl,xdO,rfl,xzC _,b4,fun w5 b5 b25 => same _ _ w5 (xuP w5) (xuP w5) rfl⟩
   ·cases hm
  ·cases hm
 | ok d =>
  refine xkC s 0 w (fun w' b => (xrS s hsm w' (hA.below b)).mono ?_)
  rintro r w2 ⟨b2,h⟩
  rw [hr] at h
  rcases h with ⟨e',he,_⟩ | ⟨m,hm,rfl,hok⟩
  ·cases he
  ·simp only [Except.ok.injEq] at hm
   subst hm
   refine ⟨mcA m,rfl,xdO,rfl,xzC m,b2,fun w3 b3 b03 => (xkB s hsm w3 (hM.below b03) (Nat.le_trans h4 b03.size)).mono ?_⟩
   rintro r w4 ⟨b4,h⟩
   rw [hr] at h
   rcases h with ⟨e',he,_⟩ | ⟨n,hn,rfl,hnok⟩
   ·cases he
   ·simp only [Except.ok.injEq] at hn
    exact ⟨mcA n,rfl,xdO,rfl,xzC n,b4,fun w5 b5 b25 => same m n w5 (hok.below b25) (hnok.below b5) hn⟩
end Go.Proofs.YtmmjgdaamkdncaaGreatDoor
