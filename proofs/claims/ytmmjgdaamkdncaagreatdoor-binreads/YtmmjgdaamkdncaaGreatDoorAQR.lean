import Derived.Test.YtmmjgdaamkdncaaGreatDoorAQM
import Derived.WalkLawsBesides
namespace Go.Proofs.YtmmjgdaamkdncaaGreatDoor
set_option maxHeartbeats 1000000
set_option maxRecDepth 1000000
set_option linter.unusedVariables false
open Go.RowKit
abbrev pan (e : Int) : Ending := .panicked [{ v := .iface 31 (.int .i64 e),recovered := false }]
def BS (w : World) (P : Nat) (s : ByteArray) : Prop := w.heap[P]? = some (.cells #[.string s] 40 (0,0))
def BR (w : World) (P : Nat) (l : List Int) : Prop := ∃ s,xaX s = l /\ s.size <= 4096 /\ BS w P s
theorem BS.lt {w : World} {P : Nat} {s : ByteArray} (h : BS w P s) : P < w.heap.size := xaU h
theorem BS.c {w : World} {P : Nat} {s : ByteArray} (h : BS w P s) : w.cell? ⟨P,0,none⟩ = some (.string s) := by
 unfold BS at h
 simp [World.cell?,h]
theorem BS.f {w : World} {P : Nat} {s : ByteArray} (h : BS w P s) : w.frozen? ⟨P,0,none⟩ = false := by
 unfold BS at h
 simp [World.frozen?,h]
theorem BS.set {w : World} {P : Nat} {s : ByteArray} (h : BS w P s) (t : ByteArray) : BS (w.setCell ⟨P,0,none⟩ (.string t)) P t := by
 unfold BS at h ⊢
 simp [World.setCell,Array.getElem?_modify,h]
theorem BS.under {w w' : World} {P : Nat} {s : ByteArray} (h : BS w P s) (b : Below w.heap.size w w') : BS w' P s := by
 unfold BS at h ⊢
 rw [b.block P (BS.lt h),h]
theorem BR.lt {w : World} {P : Nat} {l : List Int} (h : BR w P l) : P < w.heap.size := by
 obtain ⟨s,_,_,h⟩ := h
 exact h.lt
theorem BR.under {w w' : World} {P : Nat} {l : List Int} (h : BR w P l) (b : Below w.heap.size w w') : BR w' P l := by
 obtain ⟨s,h1,h2,h⟩ := h
 exact ⟨s,h1,h2,h.under b⟩
theorem BR.byte {w : World} {P : Nat} {l : List Int} (h : BR w P l) : Bts l := by
 obtain ⟨s,rfl,_,_⟩ := h
 exact xaE s
theorem BR.few {w : World} {P : Nat} {l : List Int} (h : BR w P l) : l.length <= 4096 := by
 obtain ⟨s,rfl,h,_⟩ := h
 rw [xaY]
 exact h
def Out {α : Type} (P : Nat) (V : α -> World -> Value -> Prop) (x : Except Int (α × List Int)) (w : World) (r : Ending) (w' : World) : Prop :=
 Chg P w w' /\ match x with
  | .error e => r = pan e
  | .ok (a,l) => (∃ v,r = .returned v /\ V a w' v) /\ BR w' P l
theorem Out.err {α : Type} {P : Nat} {V : α -> World -> Value -> Prop} {x : Except Int (α × List Int)} {w w' : World} {r : Ending} {e : Int} (h : Out P V x w r w') (hx : x = .error e) : Chg P w w' /\ r = pan e := by
 subst hx
 exact h
theorem Out.got {α : Type} {P : Nat} {V : α -> World -> Value -> Prop} {x : Except Int (α × List Int)} {w w' : World} {r : Ending} {a : α} {l : List Int} (h : Out P V x w r w') (hx : x = .ok (a,l)) : Chg P w w' /\ (∃ v,r = .returned v /\ V a w' v) /\ BR w' P l := by
 subst hx
 exact h
theorem Out.mkE {α : Type} {P : Nat} {V : α -> World -> Value -> Prop} {x : Except Int (α × List Int)} {w w' : World} {e : Int} (hx : x = .error e) (c : Chg P w w') : Out P V x w (pan e) w' := by
 subst hx
 exact ⟨c,rfl⟩
theorem Out.mkO {α : Type} {P : Nat} {V : α -> World -> Value -> Prop} {x : Except Int (α × List Int)} {w w' : World} {a : α} {l : List Int} {v : Value} (hx : x = .ok (a,l)) (c : Chg P w w') (hv : V a w' v) (b : BR w' P l) : Out P V x w (.returned v) w' := by
 subst hx
 exact ⟨c,⟨v,rfl,hv⟩,b⟩
theorem xbB (e : Int) (w : World) : Calls Tryz.prog 8 #[.bool true,.int .i64 e] w fun r w' => r = .returned (.tuple #[]) /\ w' = w := by
 go_enter Tryz.func8,Tryz.ntmps8
 go_wp2
 go_end0
 exact ⟨rfl,rfl⟩
theorem xbA (e : Int) (w : World) : Calls Tryz.prog 8 #[.bool false,.int .i64 e] w fun r w' => r = pan e /\ w' = w := by
 go_enter Tryz.func8,Tryz.ntmps8
 go_wp2
 exact ⟨rfl,rfl,rfl⟩
def ymN (s : List Int) (_ : World) (v : Value) : Prop := ∃ t,xaX t = s /\ v = .string t
def yfF (n : Int) (_ : World) (v : Value) : Prop := v = .int .i64 n
def ycV (n : Int) (_ : World) (v : Value) : Prop := v = .int .u8 n
def ykQ (_ : Unit) (_ : World) (v : Value) : Prop := v = .tuple #[]
theorem xkQ (P : Nat) (l : List Int) (n : Int) (hn : 0 <= n) (w : World) (h : BR w P l) :
  Calls Tryz.prog 46 #[.pointer (some ⟨P,0,none⟩),.int .i64 n] w (Out P ymN (xbR n l) w) := by
 obtain ⟨s,rfl,hs,h⟩ := h
 have hc := h.c
 have hf := h.f
 have HR : Hid (BS w P s) := h
 have HL : Hid ((xaX s).length = s.size) := xaY s
 clear h
 obtain ⟨k,rfl⟩ : ∃ k : Nat,n = (k : Int) := ⟨n.toNat,by omega⟩
 by_cases hk : k <= s.size
 ·have hd : decide ((k : Int) <= (s.size : Int)) = true := decide_eq_true (by omega)
  have hx : Hid (xbR (k : Int) (xaX s) = .ok ((xaX s).take k,(xaX s).drop k)) := by
   unfold Hid xbR
   rw [if_pos (by rw [HL.out]; omega),Int.toNat_natCast]
  go_enter Tryz.func46,Tryz.ntmps46
  go_wp2_with (go_at_call 8; refine (xbB _ _).mono ?_; rintro e w1 ⟨rfl,rfl⟩)
  go_ret
  refine Out.mkO hx.out (Chg.set _ _ _ _) ⟨_,?_,rfl⟩ ⟨_,?_,?_,HR.out.set _⟩
  ·rw [xcV]; simp
  ·exact xbN s k
  ·rw [ByteArray.size_extract]; omega
 ·have hd : decide ((k : Int) <= (s.size : Int)) = false := decide_eq_false (by omega)
  have hx : Hid (xbR (k : Int) (xaX s) = .error 3) := by
   unfold Hid xbR
   rw [if_neg (by rw [HL.out]; omega)]
  go_enter Tryz.func46,Tryz.ntmps46
  go_wp2_with (go_at_call 8; refine (xbA _ _).mono ?_; rintro e w1 ⟨rfl,rfl⟩)
  exact ⟨rfl,Out.mkE hx.out (Chg.refl _ _)⟩
theorem yaV (P : Nat) (w : World) (HP : Hid (Calls Tryz.prog 46 #[.pointer (some ⟨P,0,none⟩),.int .i64 1] w fun r w' => r = pan 3 /\ Chg P w w')) :
  Calls Tryz.prog 31 #[.pointer (some ⟨P,0,none⟩)] w fun r w' => r = pan 3 /\ Chg P w w' := by
 go_enter Tryz.func31,Tryz.ntmps31
 go_wp2_with fail
 refine HP.out.mono ?_
 rintro e w1 ⟨rfl,c1⟩
 exact ⟨rfl,rfl,c1⟩
theorem yaW (P : Nat) (t : ByteArray) (h0 : 0 < t.size) (l : List Int) (w : World) (HP : Hid (Calls Tryz.prog 46 #[.pointer (some ⟨P,0,none⟩),.int .i64 1] w fun r w' => r = .returned (.string t) /\ BR w' P l /\ Chg P w w')) :
  Calls Tryz.prog 31 #[.pointer (some ⟨P,0,none⟩)] w fun r w' => r = .returned (.int .u8 ((t[0]'h0).toNat : Int)) /\ BR w' P l /\ Chg P w w' := by
 go_enter Tryz.func31,Tryz.ntmps31
 go_wp2_with fail
 refine HP.out.mono ?_
 rintro e w1 ⟨rfl,b1,c1⟩
 have HB : Hid (BR w1 P l) := b1
 clear b1
 go_wp2
 go_ret
 exact ⟨rfl,HB.out,c1⟩
theorem xxP (P : Nat) (l : List Int) (w : World) (h : BR w P l) :
  Calls Tryz.prog 31 #[.pointer (some ⟨P,0,none⟩)] w (Out P ycV (xfH l) w) := by
 have hp := xkQ P l 1 (by omega) w h
 cases l with
 | nil =>
  have hx : xbR 1 ([] : List Int) = .error 3 := by
   unfold xbR
   rw [if_neg (by simp)]
  refine (yaV P w (hp.mono fun r w' ho => ?_)).mono ?_
  ·have := ho.err hx; exact ⟨this.2,this.1⟩
  ·rintro r w' ⟨rfl,c⟩
   exact Out.mkE rfl c
 | cons b l =>
  have hx : xbR 1 (b :: l) = .ok ([b],l) := by
   unfold xbR
   rw [if_pos (by simp; omega)]
   rfl
  obtain ⟨s,hs,_,_⟩ := h
  have hb := xaE s b (by rw [hs]; simp)
  refine (yaW P ⟨#[UInt8.ofNat b.toNat]⟩ (show 0 < 1 by omega) l w (hp.mono fun r w' ho => ?_)).mono ?_
  ·obtain ⟨c,⟨v,hr,t,ht,hv⟩,hb2⟩ := ho.got hx
   have : t = ⟨#[UInt8.ofNat b.toNat]⟩ := by
    have h1 : t.data.toList.length = 1 := by
     have := congrArg List.length ht
     rw [xaY] at this
     simpa using this
    obtain ⟨x,hxx⟩ := List.length_eq_one_iff.1 h1
    have h2 : (x.toNat : Int) = b := by
     have h3 : xaX t = [(x.toNat : Int)] := by unfold xaX; rw [hxx]; rfl
     rw [h3] at ht
     simpa using ht
    obtain ⟨d⟩ := t
    congr 1
    apply Array.ext'
    rw [show d.toList = [x] from hxx]
    simp
    rw [<- h2]
    simp
   rw [hr,hv,this]
   exact ⟨rfl,hb2,c⟩
  ·rintro r w' ⟨rfl,b2,c⟩
   refine Out.mkO rfl c ?_ b2
   unfold ycV
   congr 1
   show ((UInt8.ofNat b.toNat).toNat : Int) = b
   rw [UInt8.toNat_ofNat',Nat.mod_eq_of_lt (by omega)]
   omega
theorem xcA (P : Nat) (l : List Int) (want e : Int) (w : World) (h : BR w P l) :
  Calls Tryz.prog 30 #[.pointer (some ⟨P,0,none⟩),.int .u8 want,.int .i64 e] w (Out P ykQ (xfX want e l) w) := by
 have HN := kZz (xxP P l w h)
 clear h
 go_enter Tryz.func30,Tryz.ntmps30
 go_wp2_with fail
 refine HN.out.mono ?_
 intro r w1 ho
 cases hx : xfH l with
 | error x =>
  obtain ⟨c,rfl⟩ := ho.err hx
  exact ⟨rfl,Out.mkE (xaW hx) c⟩
 | ok p =>
  obtain ⟨b,l1⟩ := p
  obtain ⟨c,⟨v,rfl,rfl⟩,hb⟩ := ho.got hx
  have HB : Hid (BR w1 P l1) := hb
  have HX : Hid (xfX want e l = need (b == want) e l1) := xaV hx
  clear hx ho hb HN
  cases hq : (b == want) with
  | true =>
   rw [hq] at HX
   go_wp2_with fail
   refine (xbB _ _).mono ?_
   rintro r w2 ⟨rfl,rfl⟩
   go_wp2
   go_end0
   exact Out.mkO HX.out c rfl HB.out
  | false =>
   rw [hq] at HX
   go_wp2_with fail
   refine (xbA _ _).mono ?_
   rintro r w2 ⟨rfl,rfl⟩
   exact ⟨rfl,Out.mkE HX.out c⟩
theorem xpV (t : ByteArray) (h : 0 < t.size) : t.toList.isEmpty = false := by
 rw [Lib.toList_data]
 cases e : t.data.toList with
 | nil =>
  have := congrArg List.length e
  rw [Array.length_toList] at this
  exact absurd this (Nat.ne_of_gt h)
 | cons x xs => rfl
theorem ymG (P : Nat) (l : List Int) (w : World) (h : BR w P l) :
  Calls Tryz.prog 34 #[.pointer (some ⟨P,0,none⟩)] w fun r w' => w' = w /\ r = (if l = [] then .returned (.tuple #[]) else pan 4) := by
 obtain ⟨s,rfl,hs,h⟩ := h
 have hc := h.c
 clear h
 by_cases h0 : s.size = 0
 ·have e : s = ⟨#[]⟩ := by
   obtain ⟨d⟩ := s
   congr 1
   exact Array.eq_empty_of_size_eq_zero h0
  subst e
  rw [if_pos (show xaX ⟨#[]⟩ = [] from rfl)]
  go_enter Tryz.func34,Tryz.ntmps34
  go_wp2_with fail
  refine (xbB _ _).mono ?_
  rintro r w2 ⟨rfl,rfl⟩
  go_wp2
  go_end0
  exact ⟨rfl,rfl⟩
 ·have hl : s.toList.isEmpty = false := xpV s (by omega)
  have hn : ¬ xaX s = [] := by
   intro hh
   apply h0
   rw [<- xaY,hh]
   rfl
  rw [if_neg hn]
  go_enter Tryz.func34,Tryz.ntmps34
  go_wp2_with fail
  refine (xbA _ _).mono ?_
  rintro r w2 ⟨rfl,rfl⟩
  exact ⟨rfl,rfl,rfl⟩
theorem xjO (P : Nat) (s : ByteArray) (k : Nat) (hs : s.size <= 4096) (hk : k <= s.size) (w : World) (h : BS w P s) :
  Calls Tryz.prog 73 #[.pointer (some ⟨P,0,none⟩),.int .i64 (k : Int),.int .i64 0] w fun r w' => r = .returned (.tuple #[]) /\ BS w' P (s.extract k s.size) /\ Chg P w w' := by
 have hc := h.c
 have hf := h.f
 have HR : Hid (BS w P s) := h
 clear h
 go_enter Tryz.func73,Tryz.ntmps73
 go_wp2_with (go_at_call 8; refine (xbB _ _).mono ?_; rintro e w1 ⟨rfl,rfl⟩)
 go_end0
 exact ⟨rfl,HR.out.set _,Chg.set _ _ _ _⟩
theorem xhC (P : Nat) (k e : Int) (he : (e == 0) = false) (w : World) :
  Calls Tryz.prog 73 #[.pointer (some ⟨P,0,none⟩),.int .i64 k,.int .i64 e] w fun r w' => r = pan e /\ w' = w := by
 go_enter Tryz.func73,Tryz.ntmps73
 go_wp2_with (go_at_call 8; refine (xbA _ _).mono ?_; rintro e w1 ⟨rfl,rfl⟩)
 exact ⟨rfl,rfl,rfl⟩
end Go.Proofs.YtmmjgdaamkdncaaGreatDoor
