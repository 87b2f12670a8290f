import Derived.Test.YtmmjgdaamkdncaaGreatDoorAQD
import Derived.Test.YtmmjgdaamkdncaaGreatDoorAQX
namespace Go.Proofs.YtmmjgdaamkdncaaGreatDoor
set_option maxHeartbeats 4000000
set_option maxRecDepth 1000000
set_option linter.unusedVariables false
open Go.RowKit
def xcP (is : Bool) (e a : Int) : Int := if is then xbD a e else a
def xaA (b e : Int) (l : List Int) (a : Int) : List Int × Int := ((xaI l a).2.1,xcP ((xaI l a).1 != b) e (xaI l a).2.2)
theorem xeU (P : Nat) (b e : Int) (l : List Int) (n a : Int) (w : World) (h : CL w P l n a) :
  Calls Tryz.prog 11 #[.pointer (some ⟨P,0,none⟩),.int .i64 b,.int .i64 e] w fun r w' => r = .returned (.tuple #[]) /\ CL w' P (xaA b e l a).1 n (xaA b e l a).2 /\ Chg P w w' := by
 have HO := kZz (xiD P l n a w h)
 unfold xaA
 generalize xaI l a = z at HO
 clear h
 go_enter Tryz.func11,Tryz.ntmps11
 go_wp2_with fail
 refine HO.out.mono ?_
 rintro r w1 ⟨rfl,h1,c1⟩
 have HL := kZz h1
 have HG := kZz c1
 clear h1 c1 HO
 go_wp2_with fail
 refine (HL.out.say _ _).mono ?_
 rintro r w2 ⟨rfl,h2,c2⟩
 have HL2 := kZz h2
 have HG2 : Hid (Chg P w w2) := HG.out.trans c2
 clear h2 c2 HL HG
 go_wp2
 go_end0
 exact ⟨rfl,HL2.out,HG2.out⟩
def xaN (most : Int) (l : List Int) (a : Int) : Int × List Int × Int :=
 let s := xcP (decide (most < (xaK l a).1)) 2 (xaK l a).2.2
 (if s = 0 then (xaK l a).1 else 0,(xaK l a).2.1,s)
theorem xdN (P : Nat) (most : Int) (l : List Int) (n a : Int) (w : World) (h : CL w P l n a) :
  Calls Tryz.prog 38 #[.pointer (some ⟨P,0,none⟩),.int .i64 most] w fun r w' => r = .returned (.int .i64 (xaN most l a).1) /\ CL w' P (xaN most l a).2.1 n (xaN most l a).2.2 /\ Chg P w w' := by
 have HO := kZz (xoC P l n a w h)
 unfold xaN
 generalize xaK l a = z at HO
 obtain ⟨x,l1,a1⟩ := z
 dsimp only at HO ⊢
 obtain ⟨s,hs⟩ : ∃ s,s = xcP (decide (most < x)) 2 a1 := ⟨_,rfl⟩
 rw [<- hs]
 obtain ⟨v,hv⟩ : ∃ v : Int,v = if s = 0 then x else 0 := ⟨_,rfl⟩
 rw [<- hv]
 have HSD := kZz hs
 have HVD := kZz hv
 clear h hs hv
 go_enter Tryz.func38,Tryz.ntmps38
 go_wp2_with fail
 refine HO.out.mono ?_
 rintro r w1 ⟨rfl,h1,c1⟩
 have HL := kZz h1
 have HG := kZz c1
 clear h1 c1 HO
 go_wp2_with fail
 refine (HL.out.say _ _).mono ?_
 rintro r w2 ⟨rfl,h2,c2⟩
 have HG2 : Hid (Chg P w w2) := HG.out.trans c2
 have h3 : CL w2 P l1 n s := by rw [HSD.out]; exact h2
 obtain ⟨t,ht,hm,hc⟩ := h3
 have HL2 : Hid (CL w2 P l1 n s) := ⟨t,ht,hm,hc⟩
 obtain ⟨z0,z1,z2⟩ := hc.cell
 clear h2 c2 HL HG ht hm hc HSD
 by_cases h0 : s = 0
 ·have hv : v = x := by rw [HVD.out,if_pos h0]
  subst h0 hv
  clear HVD
  go_wp2
  go_ret
  exact ⟨rfl,HL2.out,HG2.out⟩
 ·have hb : (s == 0) = false := by rw [beq_eq_false_iff_ne]; exact h0
  have hb2 : (s != 0) = true := by rw [bne,hb]; rfl
  have hv : v = 0 := by rw [HVD.out,if_neg h0]
  subst hv
  clear HVD
  go_wp2
  go_ret
  exact ⟨rfl,HL2.out,HG2.out⟩
def xhM (l : List Int) (a : Int) : Int × List Int × Int :=
 let m := xaA 0 6 l a
 let o := xaA 65 6 m.1 m.2
 let z := xfM 32 o.1 o.2
 let e := xaA 11 4 z.2.1 z.2.2
 (z.1,e.1,e.2)
theorem ybG (P : Nat) (l : List Int) (n a : Int) (w : World) (h : CL w P l n a) :
  Calls Tryz.prog 42 #[.pointer (some ⟨P,0,none⟩)] w fun r w' => r = .returned (.int .i64 (xhM l a).1) /\ CL w' P (xhM l a).2.1 n (xhM l a).2.2 /\ Chg P w w' := by
 have H1 := kZz (xeU P 0 6 l n a w h)
 unfold xhM
 dsimp only
 generalize xaA 0 6 l a = m at H1 ⊢
 generalize e2 : xaA 65 6 m.1 m.2 = o
 generalize e3 : xfM 32 o.1 o.2 = z
 generalize e4 : xaA 11 4 z.2.1 z.2.2 = e
 have E2 := kZz e2
 have E3 := kZz e3
 have E4 := kZz e4
 clear e2 e3 e4
 clear h
 go_enter Tryz.func42,Tryz.ntmps42
 go_wp2_with fail
 refine H1.out.mono ?_
 rintro r w1 ⟨rfl,h1,c1⟩
 have H2 := kZz (xeU P 65 6 m.1 n m.2 w1 h1)
 have HG1 : Hid (Chg P w w1) := c1
 rw [E2.out] at H2
 clear h1 c1 H1
 go_wp2_with fail
 refine H2.out.mono ?_
 rintro r w2 ⟨rfl,h2,c2⟩
 have H3 := kZz (ybH P 32 (Or.inl rfl) o.1 n o.2 w2 h2)
 have HG2 : Hid (Chg P w w2) := HG1.out.trans c2
 rw [E3.out] at H3
 clear h2 c2 H2 HG1
 go_wp2_with fail
 refine H3.out.mono ?_
 rintro r w3 ⟨rfl,h3,c3⟩
 have H4 := kZz (xeU P 11 4 z.2.1 n z.2.2 w3 h3)
 have HG3 : Hid (Chg P w w3) := HG2.out.trans c3
 rw [E4.out] at H4
 clear h3 c3 H3 HG2
 go_wp2_with fail
 refine H4.out.mono ?_
 rintro r w4 ⟨rfl,h4,c4⟩
 have HL4 := kZz h4
 have HG4 : Hid (Chg P w w4) := HG3.out.trans c4
 clear h4 c4 H4 HG3
 go_wp2
 go_ret
 exact ⟨rfl,HL4.out,HG4.out⟩
theorem xeD (l : List Int) (a : Int) (h : ∀ b ∈ l,0 <= b /\ b < 256) : 0 <= (xaI l a).1 /\ (xaI l a).1 < 256 := by
 unfold xaI
 split
 ·cases l with
  | nil => exact ⟨Int.le_refl _,(by decide : (0 : Int) < 256)⟩
  | cons b r => exact h b (List.mem_cons_self ..)
 ·exact ⟨Int.le_refl _,(by decide : (0 : Int) < 256)⟩
def xbU (l : List Int) (a : Int) : Int × List Int × Int := ((xaI l a).1,(xaI l a).2.1,xcP (!isK (xaI l a).1) 6 (xaI l a).2.2)
theorem xzF (P : Nat) (l : List Int) (n a : Int) (w : World) (h : CL w P l n a) :
  Calls Tryz.prog 39 #[.pointer (some ⟨P,0,none⟩)] w fun r w' => r = .returned (.int .u8 (xbU l a).1) /\ CL w' P (xbU l a).2.1 n (xbU l a).2.2 /\ Chg P w w' := by
 have HO := kZz (xiD P l n a w h)
 have hx := xeD l a h.byte
 unfold xbU
 dsimp only
 generalize xaI l a = z at HO hx ⊢
 obtain ⟨x,l1,a1⟩ := z
 dsimp only at HO hx ⊢
 have hwr : IntKind.u8.wrap x = x := by rw [IntKind.wrap_u8]; omega
 generalize hs : xcP (!isK x) 6 a1 = s
 have HSD := kZz hs
 clear h hs
 go_enter Tryz.func39,Tryz.ntmps39
 go_wp2_with fail
 refine HO.out.mono ?_
 rintro r w1 ⟨rfl,h1,c1⟩
 have HL := kZz h1
 have HG := kZz c1
 clear h1 c1 HO
 by_cases h6 : x = 126
 ·subst h6
  go_wp2_with fail
  refine (HL.out.say _ _).mono ?_
  rintro r w2 ⟨rfl,h2,c2⟩
  have HL2 : Hid (CL w2 P l1 n s) := by unfold Hid; rw [<- HSD.out]; exact h2
  have HG2 : Hid (Chg P w w2) := HG.out.trans c2
  clear h2 c2 HL HG HSD
  go_wp2
  go_ret
  exact ⟨rfl,HL2.out,HG2.out⟩
 ·have hb6 : (x == 126) = false := by rw [beq_eq_false_iff_ne]; exact h6
  have hn6 : (x != 126) = true := by rw [bne,hb6]; rfl
  have HK : Hid ((x != 127) = !isK x) := by unfold Hid isK; rw [hb6,Bool.or_false]; rfl
  clear h6
  go_wp2_with fail
  refine (HL.out.say _ _).mono ?_
  rintro r w2 ⟨rfl,h2,c2⟩
  have HL2 : Hid (CL w2 P l1 n s) := by unfold Hid; rw [<- HSD.out,<- HK.out]; exact h2
  have HG2 : Hid (Chg P w w2) := HG.out.trans c2
  clear h2 c2 HL HG HSD HK
  go_wp2
  go_ret
  exact ⟨rfl,HL2.out,HG2.out⟩
theorem xkY (s : ByteArray) (hs : s.size <= maxLen) : ∃ (X : ByteArray) (j e : Int),
  (∀ w,Calls Tryz.prog 67 #[.string s] w fun e' w' => e' = .returned (.tuple #[.string X,.int .i64 j,.int .i64 e]) /\ Below w.heap.size w w') /\
  ((e ≠ 0 /\ xdV (xaX s) = .error e) \/ (e = 0 /\ ∃ k : Nat,j = (k : Int) /\ k <= s.size /\ xdV (xaX s) = .ok (xaX X,(xaX s).drop k))) := by
 have hlen := xaY s
 rcases xrP (xaX s) (xaE s) with ⟨e,he,hr,hx⟩ | ⟨n,k,hn,hk,hk10,hr,hx⟩
 ·have H : ∀ w,Calls Tryz.prog 66 #[.string s,.int .i64 32] w fun e' w' => e' = .returned (.tuple #[.int .u64 0,.int .i64 0,.int .i64 e]) /\ Below w.heap.size w w' := fun w => xeL s hs 0 0 e hr w
  exact ⟨⟨#[]⟩,0,e,fun w => xjA s e w (by rw [bne,he]; rfl) H,Or.inl ⟨by simpa using he,by unfold xdV xbX; rw [xaW (xaW hx)]⟩⟩
 ·have H : ∀ w,Calls Tryz.prog 66 #[.string s,.int .i64 32] w fun e' w' => e' = .returned (.tuple #[.int .u64 (n : Int),.int .i64 (k : Int),.int .i64 0]) /\ Below w.heap.size w w' := fun w => xeL s hs n k 0 hr w
  by_cases h16 : n <= 16
  ·have hc : xbX 16 (xaX s) = .ok ((n : Int),(xaX s).drop k) := by
    unfold xbX
    rw [xaV hx,xaV (xdU (decide_eq_true (by omega)) _ _)]
    rfl
   by_cases hlt : s.size < k + n
   ·refine ⟨⟨#[]⟩,0,3,fun w => xiQ s n k w hs h16 hk10 (by omega) (by omega) H,Or.inl ⟨by decide,?_⟩⟩
    unfold xdV
    rw [xaV hc]
    apply xaW
    unfold xbR
    rw [if_neg (by rw [List.length_drop,xaY]; omega)]
   ·have hpc : xbR (n : Int) ((xaX s).drop k) = .ok (xaX (s.extract k (k + n)),(xaX s).drop (k + n)) := by
     unfold xbR
     rw [if_pos (by rw [List.length_drop,xaY]; omega),Int.toNat_natCast,xcV,List.drop_drop,show k + n - k = n by omega]
    have hTz : (s.extract k (k + n)).size <= 16 := by rw [ByteArray.size_extract]; omega
    cases hv : Lib.validD (s.extract k (k + n)).data.toList with
    | false =>
     refine ⟨⟨#[]⟩,0,4,fun w => xkZ s _ n k w hs h16 hk10 (by omega) rfl hTz hv H,Or.inl ⟨by decide,?_⟩⟩
     unfold xdV
     rw [xaV hc,xaV hpc]
     apply xaW
     rw [xfU,hv]
     rfl
    | true =>
     refine ⟨_,_,0,fun w => xlR s _ n k w hs h16 hk10 (by omega) rfl hTz hv H,Or.inr ⟨rfl,k + n,by rw [Int.natCast_add],by omega,?_⟩⟩
     unfold xdV
     rw [xaV hc,xaV hpc,xaV (xdU (by rw [xfU]; exact hv) _ _)]
     rfl
  ·refine ⟨⟨#[]⟩,0,2,fun w => xiP s n k w (by omega) H,Or.inl ⟨by decide,?_⟩⟩
   unfold xdV xbX
   apply xaW
   rw [xaV hx]
   apply xaW
   unfold need
   rw [if_neg (by simp; omega)]
theorem yaC (P : Nat) (s : ByteArray) (n : Int) (X : ByteArray) (w : World) (k : Nat) (hk : k <= s.size) (hm : s.size <= maxLen) (HRD : Hid (∀ w,Calls Tryz.prog 67 #[.string s] w fun e' w' => e' = .returned (.tuple #[.string X,.int .i64 (k : Int),.int .i64 0]) /\ Below w.heap.size w w')) (h : CS w P s n 0) :
  Calls Tryz.prog 40 #[.pointer (some ⟨P,0,none⟩)] w fun r w' => r = .returned (.string X) /\ CS w' P (s.extract k s.size) n 0 /\ Chg P w w' := by
 obtain ⟨c0,c1,c2⟩ := h.cell
 have HR : Hid (CS w P s n 0) := h
 clear h
 go_enter Tryz.func40,Tryz.ntmps40
 go_wp2_with fail
 refine (HRD.out _).mono ?_
 rintro e1 w1 ⟨rfl,b1⟩
 clear c0 c1 c2
 go_wp2_with fail
 refine (xiZ P s n k _ (HR.out.below b1) hk hm).mono ?_
 rintro e1 w2 ⟨rfl,r2,k2⟩
 go_wp2
 go_ret
 exact ⟨rfl,r2,(Chg.of_below b1).trans k2⟩
theorem xxU (P : Nat) (s : ByteArray) (n : Int) (X : ByteArray) (w : World) (a k e : Int) (HRD : Hid (∀ w,Calls Tryz.prog 67 #[.string s] w fun e' w' => e' = .returned (.tuple #[.string X,.int .i64 k,.int .i64 e]) /\ Below w.heap.size w w')) (h : CS w P s n a) (he : e ≠ 0) :
  Calls Tryz.prog 40 #[.pointer (some ⟨P,0,none⟩)] w fun r w' => r = .returned (.string ⟨#[]⟩) /\ CS w' P s n (xbD a e) /\ Chg P w w' := by
 obtain ⟨c0,c1,c2⟩ := h.cell
 have HR : Hid (CS w P s n a) := h
 clear h
 go_enter Tryz.func40,Tryz.ntmps40
 go_wp2_with fail
 refine (HRD.out _).mono ?_
 rintro e1 w1 ⟨rfl,b1⟩
 clear c0 c1 c2
 go_wp2_with fail
 refine (xgV P s n a e k _ (HR.out.below b1) he).mono ?_
 rintro e1 w2 ⟨rfl,r2,k2⟩
 go_wp2
 go_ret
 exact ⟨rfl,r2,(Chg.of_below b1).trans k2⟩
theorem xxV (P : Nat) (s : ByteArray) (n : Int) (X : ByteArray) (w : World) (a k e : Int) (HRD : Hid (∀ w,Calls Tryz.prog 67 #[.string s] w fun e' w' => e' = .returned (.tuple #[.string X,.int .i64 k,.int .i64 e]) /\ Below w.heap.size w w')) (h : CS w P s n a) (ha : a ≠ 0) :
  Calls Tryz.prog 40 #[.pointer (some ⟨P,0,none⟩)] w fun r w' => r = .returned (.string ⟨#[]⟩) /\ CS w' P s n a /\ Chg P w w' := by
 obtain ⟨c0,c1,c2⟩ := h.cell
 have HR : Hid (CS w P s n a) := h
 clear h
 go_enter Tryz.func40,Tryz.ntmps40
 go_wp2_with fail
 refine (HRD.out _).mono ?_
 rintro e1 w1 ⟨rfl,b1⟩
 clear c0 c1 c2
 go_wp2_with fail
 refine (xmS P s n a e k _ (HR.out.below b1) ha).mono ?_
 rintro e1 w2 ⟨rfl,r2,k2⟩
 go_wp2
 go_ret
 exact ⟨rfl,r2,(Chg.of_below b1).trans k2⟩
def xiN (l : List Int) (a : Int) : List Int × List Int × Int := if a = 0 then match xdV l with
 | .ok (x,r) => (x,r,0)
 | .error e => ([],l,e)
 else ([],l,a)
theorem ydZ (P : Nat) (l : List Int) (n a : Int) (w : World) (h : CL w P l n a) :
  Calls Tryz.prog 40 #[.pointer (some ⟨P,0,none⟩)] w fun r w' => ∃ T,r = .returned (.string T) /\ xaX T = (xiN l a).1 /\ CL w' P (xiN l a).2.1 n (xiN l a).2.2 /\ Chg P w w' := by
 obtain ⟨s,rfl,hm,h⟩ := h
 obtain ⟨X,j,e,H,hc⟩ := xkY s hm
 unfold xiN
 by_cases ha : a = 0
 ·subst ha
  rw [if_pos rfl]
  rcases hc with ⟨he,hr⟩ | ⟨rfl,k,rfl,hk,hr⟩
  ·rw [hr]
   refine (xxU P s n X w 0 j e H h he).mono ?_
   rintro r w1 ⟨rfl,h1,c1⟩
   refine ⟨_,rfl,rfl,⟨s,rfl,hm,?_⟩,c1⟩
   have e1 : xbD 0 e = e := by unfold xbD; rw [if_pos rfl]
   rw [e1] at h1
   exact h1
  ·rw [hr]
   refine (yaC P s n X w k hk hm H h).mono ?_
   rintro r w1 ⟨rfl,h1,c1⟩
   exact ⟨_,rfl,rfl,⟨_,xbN s k,xbF s k hm,h1⟩,c1⟩
 ·rw [if_neg ha]
  refine (xxV P s n X w a j e H h ha).mono ?_
  rintro r w1 ⟨rfl,h1,c1⟩
  exact ⟨_,rfl,rfl,⟨s,rfl,hm,h1⟩,c1⟩
def xgT (l : List Int) (a : Int) : GloV × List Int × Int :=
 let k := xbU l a
 let m := xaI k.2.1 k.2.2
 let o := xaI m.2.1 (xcP (decide (1 < m.1)) 4 m.2.2)
 let c := xcP ((o.1 == 65 && k.1 != 127) || (o.1 == 66 && k.1 != 126)) 4 (xcP (o.1 != 65 && o.1 != 66) 6 o.2.2)
 let z := xfM (if o.1 = 65 then 32 else 64) o.2.1 c
 let e := xaA 11 4 z.2.1 z.2.2
 (⟨k.1,m.1 == 1,z.1⟩,e.1,e.2)
theorem xeC (tmps : Array Value) (W : World) (M : Nat) (k s : Int) (b : Bool) (h2 : tmps.getD 2 undef = .pointer (some ⟨M,0,none⟩)) (hM : W.heap[M]? = some (.cells #[.int .u8 k,.bool b,.int .i64 s] 75 (0,0))) :
  (results Tryz.f41 tmps).run Tryz.prog W = .ok (.agg #[.int .u8 k,.bool b,.int .i64 s]) W := by
 have h2' : tmps[2]?.getD undef = .pointer (some ⟨M,0,none⟩) := by simpa using h2
 have hl := run_loadVar_row (P := Tryz.prog) W M 75 75 #[.int .u8 k,.bool b,.int .i64 s] (0,0) _ hM Tryz.underlying75 rfl (by kernel_rfl)
 simp [results,Tryz.results41,h2',asAddr,hl]
def G3 (w : World) (X : Nat) (k s : Int) (b : Bool) : Prop := w.heap[X]? = some (.cells #[.int .u8 k,.bool b,.int .i64 s] 75 (0,0))
theorem G3.cell {w : World} {X : Nat} {k s : Int} {b : Bool} (h : G3 w X k s b) : w.cell? ⟨X,0,none⟩ = some (.int .u8 k) /\ w.cell? ⟨X,1,none⟩ = some (.bool b) /\ w.cell? ⟨X,2,none⟩ = some (.int .i64 s) := by
 unfold G3 at h
 simp [World.cell?,h]
theorem G3.frozen {w : World} {X : Nat} {k s : Int} {b : Bool} (h : G3 w X k s b) (i : Nat) : w.frozen? ⟨X,i,none⟩ = false := by
 unfold G3 at h
 simp [World.frozen?,h]
theorem G3.chg {w w' : World} {X P : Nat} {k s : Int} {b : Bool} (h : G3 w X k s b) (c : Chg P w w') (hX : X ≠ P) : G3 w' X k s b := by
 unfold G3 at h ⊢
 rw [c.block X (xaU h) hX,h]
theorem G3.all {w : World} {X : Nat} {k s : Int} {b : Bool} (h : G3 w X k s b) (k' s' : Int) (b' : Bool) : G3 (((w.setCell ⟨X,0,none⟩ (.int .u8 k')).setCell ⟨X,1,none⟩ (.bool b')).setCell ⟨X,2,none⟩ (.int .i64 s')) X k' s' b' := by
 unfold G3 at h ⊢
 simp [World.setCell,Array.getElem?_modify,h]
theorem G3.set1 {w : World} {X : Nat} {k s : Int} {b : Bool} (h : G3 w X k s b) (c : Bool) : G3 (w.setCell ⟨X,1,none⟩ (.bool c)) X k s c := by
 unfold G3 at h ⊢
 simp [World.setCell,Array.getElem?_modify,h]
theorem G3.set2 {w : World} {X : Nat} {k s : Int} {b : Bool} (h : G3 w X k s b) (z : Int) : G3 (w.setCell ⟨X,2,none⟩ (.int .i64 z)) X k z b := by
 unfold G3 at h ⊢
 simp [World.setCell,Array.getElem?_modify,h]
theorem ydY (P : Nat) (l : List Int) (n a : Int) (w : World) (h : CL w P l n a) :
  Calls Tryz.prog 41 #[.pointer (some ⟨P,0,none⟩)] w fun r w' => r = .returned (.agg #[.int .u8 (xgT l a).1.k,.bool (xgT l a).1.m,.int .i64 (xgT l a).1.s]) /\ CL w' P (xgT l a).2.1 n (xgT l a).2.2 /\ Chg P w w' := by
 have hPw := h.lt
 have b0 : Below w.heap.size w (w.alloc (.cells #[.int .u8 0,.bool false,.int .i64 0] 75)) := (Below.refl _ _).alloc (Nat.le_refl _) _
 have HC0 : Hid (Chg P w (w.alloc (.cells #[.int .u8 0,.bool false,.int .i64 0] 75))) := Chg.of_below b0
 have HR0 : Hid (G3 (w.alloc (.cells #[.int .u8 0,.bool false,.int .i64 0] 75)) w.heap.size 0 0 false) := xaZ _ _
 have H1 := kZz (xzF P l n a _ (h.heap (b0.block P hPw)))
 have hkb := xeD l a h.byte
 have hkb2 : 0 <= (xbU l a).1 /\ (xbU l a).1 < 256 := hkb
 unfold xgT
 dsimp only
 generalize xbU l a = k at H1 hkb2 ⊢
 generalize e2 : xaI k.2.1 k.2.2 = m
 generalize e3 : xcP (decide (1 < m.1)) 4 m.2.2 = a3
 generalize e4 : xaI m.2.1 a3 = q
 generalize e5 : xcP (q.1 != 65 && q.1 != 66) 6 q.2.2 = a5
 generalize e6 : xcP ((q.1 == 65 && k.1 != 127) || (q.1 == 66 && k.1 != 126)) 4 a5 = a6
 generalize e7 : xfM (if q.1 = 65 then 32 else 64) q.2.1 a6 = z
 generalize e8 : xaA 11 4 z.2.1 z.2.2 = e
 have E2 := kZz e2
 have E3 := kZz e3
 have E4 := kZz e4
 have E5 := kZz e5
 have E6 := kZz e6
 have E7 := kZz e7
 have E8 := kZz e8
 clear e2 e3 e4 e5 e6 e7 e8 b0 h hkb
 obtain ⟨kk,l1,a1⟩ := k
 obtain ⟨mm,l2,a2⟩ := m
 obtain ⟨qq,l4,a4⟩ := q
 obtain ⟨zz,l7,a7⟩ := z
 obtain ⟨l8,a8⟩ := e
 dsimp only at H1 hkb2 E2 E3 E4 E5 E6 E7 E8 ⊢
 go_enter Tryz.func41,Tryz.ntmps41
 go_wp2_with fail
 refine H1.out.mono ?_
 rintro r w1 ⟨rfl,h1,c1⟩
 have hlt0 : w.heap.size < w1.heap.size := by have := c1.size; simp at this; omega
 have HR1 : Hid (G3 w1 w.heap.size 0 0 false) := HR0.out.chg c1 (by omega)
 have HC1 : Hid (Chg P w w1) := HC0.out.trans c1
 obtain ⟨v1,hv1⟩ : ∃ v1,v1 = w1.alloc (.cells #[.int .u8 kk,.bool false,.int .i64 0] 75) := ⟨_,rfl⟩
 have b1 : Below w1.heap.size w1 v1 := by rw [hv1]; exact (Below.refl _ _).alloc (Nat.le_refl _) _
 have HV1 := kZz hv1
 obtain ⟨X,hX⟩ : ∃ X,X = w1.heap.size := ⟨_,rfl⟩
 have HX1 : Hid (G3 v1 X kk 0 false) := by unfold Hid; rw [hv1,hX]; exact xaZ _ _
 have HXE := kZz hX
 have hXP : X ≠ P := by omega
 have hXR : X ≠ w.heap.size := by omega
 have hXw : w.heap.size <= X := by omega
 have HR2 : Hid (G3 v1 w.heap.size 0 0 false) := (b1.block _ hlt0).trans HR1.out
 have HC2 : Hid (Chg P w v1) := HC1.out.trans (Chg.of_below b1)
 have HO := kZz (xiD P l1 n a1 v1 (h1.heap (b1.block P h1.lt)))
 rw [E2.out] at HO
 dsimp only at HO
 clear h1 c1 b1 hv1 hX H1 HC0 HR0 HR1 HC1 E2 hlt0
 go_wp2_with fail
 rw [<- HV1.out,<- HXE.out]
 refine HO.out.mono ?_
 rintro r w2 ⟨rfl,h2,c2⟩
 have HX2 : Hid (G3 w2 X kk 0 false) := HX1.out.chg c2 hXP
 have HR3 : Hid (G3 w2 w.heap.size 0 0 false) := HR2.out.chg c2 (by omega)
 have HC3 : Hid (Chg P w w2) := HC2.out.trans c2
 have HL2 : Hid (CL w2 P l2 n a2) := h2
 clear h2 c2 HO HX1 HR2 HC2 HV1 HXE
 go_wp2_with fail
 refine (HL2.out.say _ _).mono ?_
 rintro r w3 ⟨rfl,h3,c3⟩
 have HL3 : Hid (CL w3 P l2 n a3) := by unfold Hid; rw [<- E3.out]; exact h3
 have HX3 : Hid (G3 w3 X kk 0 false) := HX2.out.chg c3 hXP
 have HR4 : Hid (G3 w3 w.heap.size 0 0 false) := HR3.out.chg c3 (by omega)
 have HC4 : Hid (Chg P w w3) := HC3.out.trans c3
 obtain ⟨x0,x1,x2⟩ := HX3.out.cell
 have xf := HX3.out.frozen 1
 clear h3 c3 HL2 HX2 HR3 HC3 E3
 obtain ⟨v3,hv3⟩ : ∃ v3,v3 = w3.setCell ⟨X,1,none⟩ (.bool (mm == 1)) := ⟨_,rfl⟩
 have HV3 := kZz hv3
 have HX4 : Hid (G3 v3 X kk 0 (mm == 1)) := by unfold Hid; rw [hv3]; exact HX3.out.set1 _
 have HR5 : Hid (G3 v3 w.heap.size 0 0 false) := by unfold Hid; rw [hv3]; exact HR4.out.chg (Chg.set _ _ _ _) (Ne.symm hXR)
 have HC5 : Hid (Chg P w v3) := by unfold Hid; rw [hv3]; exact HC4.out.far X 1 _ hXw
 have HO := kZz (xiD P l2 n a3 v3 (HL3.out.heap (by rw [hv3]; exact Below.heap_setCell _ _ _ _ (Ne.symm hXP))))
 rw [E4.out] at HO
 dsimp only at HO
 clear hv3 HL3 HX3 HR4 HC4 E4
 go_wp2_with fail
 rw [<- HV3.out]
 refine HO.out.mono ?_
 rintro r w4 ⟨rfl,h4,c4⟩
 have HX5 : Hid (G3 w4 X kk 0 (mm == 1)) := HX4.out.chg c4 hXP
 have HR6 : Hid (G3 w4 w.heap.size 0 0 false) := HR5.out.chg c4 (by omega)
 have HC6 : Hid (Chg P w w4) := HC5.out.trans c4
 have HL4 : Hid (CL w4 P l4 n a4) := h4
 clear h4 c4 HO HX4 HR5 HC5 HV3 x0 x1 x2 xf
 by_cases q5 : qq = 65
 ·subst q5
  by_cases k7 : kk = 127
  ·subst k7
   go_wp2_with fail
   refine (HL4.out.say _ _).mono ?_
   rintro r w5 ⟨rfl,h5,c5⟩
   have HL5 : Hid (CL w5 P l4 n a5) := by unfold Hid; rw [<- E5.out]; exact h5
   have HX6 : Hid (G3 w5 X 127 0 (mm == 1)) := HX5.out.chg c5 hXP
   have HR7 : Hid (G3 w5 w.heap.size 0 0 false) := HR6.out.chg c5 (by omega)
   have HC7 : Hid (Chg P w w5) := HC6.out.trans c5
   obtain ⟨x0,x1,x2⟩ := HX6.out.cell
   clear h5 c5 HL4 HX5 HR6 HC6 E5
   go_wp2_with fail
   refine (HL5.out.say _ _).mono ?_
   rintro r w6 ⟨rfl,h6,c6⟩
   have h6' : CL w6 P l4 n a6 := by rw [<- E6.out]; exact h6
   have HX7 : Hid (G3 w6 X 127 0 (mm == 1)) := HX6.out.chg c6 hXP
   have HR8 : Hid (G3 w6 w.heap.size 0 0 false) := HR7.out.chg c6 (by omega)
   have HC8 : Hid (Chg P w w6) := HC7.out.trans c6
   have HS := kZz (ybH P 32 (by decide) l4 n a6 w6 h6')
   rw [show xfM 32 l4 a6 = (zz,l7,a7) from (by have := E7.out; simpa using this)] at HS
   dsimp only at HS
   clear h6 h6' c6 HL5 HX6 HR7 HC7 E6 E7 x0 x1 x2
   go_wp2_with fail
   refine HS.out.mono ?_
   rintro r w7 ⟨rfl,h7,c7⟩
   have HX8 : Hid (G3 w7 X 127 0 (mm == 1)) := HX7.out.chg c7 hXP
   have HR9 : Hid (G3 w7 w.heap.size 0 0 false) := HR8.out.chg c7 (by omega)
   have HC9 : Hid (Chg P w w7) := HC8.out.trans c7
   obtain ⟨x0,x1,x2⟩ := HX8.out.cell
   have xf := HX8.out.frozen 2
   obtain ⟨v7,hv7⟩ : ∃ v7,v7 = w7.setCell ⟨X,2,none⟩ (.int .i64 zz) := ⟨_,rfl⟩
   have HV7 := kZz hv7
   have HX9 : Hid (G3 v7 X 127 zz (mm == 1)) := by unfold Hid; rw [hv7]; exact HX8.out.set2 _
   have HR10 : Hid (G3 v7 w.heap.size 0 0 false) := by unfold Hid; rw [hv7]; exact HR9.out.chg (Chg.set _ _ _ _) (Ne.symm hXR)
   have HC10 : Hid (Chg P w v7) := by unfold Hid; rw [hv7]; exact HC9.out.far X 2 _ hXw
   have HM := kZz (xeU P 11 4 l7 n a7 v7 (h7.heap (by rw [hv7]; exact Below.heap_setCell _ _ _ _ (Ne.symm hXP))))
   rw [E8.out] at HM
   dsimp only at HM
   clear h7 c7 hv7 HS HX7 HR8 HC8 HX8 HR9 HC9 E8
   go_wp2_with fail
   rw [<- HV7.out]
   refine HM.out.mono ?_
   rintro r w8 ⟨rfl,h8,c8⟩
   have HX11 : Hid (G3 w8 X 127 zz (mm == 1)) := HX9.out.chg c8 hXP
   have HR11 : Hid (G3 w8 w.heap.size 0 0 false) := HR10.out.chg c8 (by omega)
   have HC11 : Hid (Chg P w w8) := HC10.out.trans c8
   have HL8 : Hid (CL w8 P l8 n a8) := h8
   clear h8 c8 HM HX9 HR10 HC10 HV7 x0 x1 x2 xf
   obtain ⟨x0,x1,x2⟩ := HX11.out.cell
   obtain ⟨r0,r1,r2⟩ := HR11.out.cell
   have rf0 := HR11.out.frozen 0
   have rf1 := HR11.out.frozen 1
   have rf2 := HR11.out.frozen 2
   go_wp2
   refine ⟨rfl,_,xeC _ _ w.heap.size 127 zz (mm == 1) rfl (HR11.out.all 127 zz (mm == 1)),rfl,HL8.out.heap ?_,((HC11.out.far w.heap.size 0 _ (Nat.le_refl _)).far w.heap.size 1 _ (Nat.le_refl _)).far w.heap.size 2 _ (Nat.le_refl _)⟩
   have hPR : P ≠ w.heap.size := by omega
   rw [Below.heap_setCell _ _ _ _ hPR,Below.heap_setCell _ _ _ _ hPR,Below.heap_setCell _ _ _ _ hPR]
  ·skip
   have k7b : (kk == 127) = false := by rw [beq_eq_false_iff_ne]; exact k7
   have k7n : (kk != 127) = true := by rw [bne,k7b]; rfl
   have HB6 : Hid ((((65 : Int) == 65 && kk != 127) || ((65 : Int) == 66 && kk != 126)) = true) := by unfold Hid; rw [k7n]; rfl
   go_wp2_with fail
   refine (HL4.out.say _ _).mono ?_
   rintro r w5 ⟨rfl,h5,c5⟩
   have HL5 : Hid (CL w5 P l4 n a5) := by unfold Hid; rw [<- E5.out]; exact h5
   have HX6 : Hid (G3 w5 X kk 0 (mm == 1)) := HX5.out.chg c5 hXP
   have HR7 : Hid (G3 w5 w.heap.size 0 0 false) := HR6.out.chg c5 (by omega)
   have HC7 : Hid (Chg P w w5) := HC6.out.trans c5
   obtain ⟨x0,x1,x2⟩ := HX6.out.cell
   clear h5 c5 HL4 HX5 HR6 HC6 E5
   go_wp2_with fail
   refine (HL5.out.say _ _).mono ?_
   rintro r w6 ⟨rfl,h6,c6⟩
   have h6' : CL w6 P l4 n a6 := by rw [<- E6.out,HB6.out]; exact h6
   have HX7 : Hid (G3 w6 X kk 0 (mm == 1)) := HX6.out.chg c6 hXP
   have HR8 : Hid (G3 w6 w.heap.size 0 0 false) := HR7.out.chg c6 (by omega)
   have HC8 : Hid (Chg P w w6) := HC7.out.trans c6
   have HS := kZz (ybH P 32 (by decide) l4 n a6 w6 h6')
   rw [show xfM 32 l4 a6 = (zz,l7,a7) from (by have := E7.out; simpa using this)] at HS
   dsimp only at HS
   clear h6 h6' c6 HL5 HX6 HR7 HC7 E6 E7 x0 x1 x2
   go_wp2_with fail
   refine HS.out.mono ?_
   rintro r w7 ⟨rfl,h7,c7⟩
   have HX8 : Hid (G3 w7 X kk 0 (mm == 1)) := HX7.out.chg c7 hXP
   have HR9 : Hid (G3 w7 w.heap.size 0 0 false) := HR8.out.chg c7 (by omega)
   have HC9 : Hid (Chg P w w7) := HC8.out.trans c7
   obtain ⟨x0,x1,x2⟩ := HX8.out.cell
   have xf := HX8.out.frozen 2
   obtain ⟨v7,hv7⟩ : ∃ v7,v7 = w7.setCell ⟨X,2,none⟩ (.int .i64 zz) := ⟨_,rfl⟩
   have HV7 := kZz hv7
   have HX9 : Hid (G3 v7 X kk zz (mm == 1)) := by unfold Hid; rw [hv7]; exact HX8.out.set2 _
   have HR10 : Hid (G3 v7 w.heap.size 0 0 false) := by unfold Hid; rw [hv7]; exact HR9.out.chg (Chg.set _ _ _ _) (Ne.symm hXR)
   have HC10 : Hid (Chg P w v7) := by unfold Hid; rw [hv7]; exact HC9.out.far X 2 _ hXw
   have HM := kZz (xeU P 11 4 l7 n a7 v7 (h7.heap (by rw [hv7]; exact Below.heap_setCell _ _ _ _ (Ne.symm hXP))))
   rw [E8.out] at HM
   dsimp only at HM
   clear h7 c7 hv7 HS HX7 HR8 HC8 HX8 HR9 HC9 E8
   go_wp2_with fail
   rw [<- HV7.out]
   refine HM.out.mono ?_
   rintro r w8 ⟨rfl,h8,c8⟩
   have HX11 : Hid (G3 w8 X kk zz (mm == 1)) := HX9.out.chg c8 hXP
   have HR11 : Hid (G3 w8 w.heap.size 0 0 false) := HR10.out.chg c8 (by omega)
   have HC11 : Hid (Chg P w w8) := HC10.out.trans c8
   have HL8 : Hid (CL w8 P l8 n a8) := h8
   clear h8 c8 HM HX9 HR10 HC10 HV7 x0 x1 x2 xf
   obtain ⟨x0,x1,x2⟩ := HX11.out.cell
   obtain ⟨r0,r1,r2⟩ := HR11.out.cell
   have rf0 := HR11.out.frozen 0
   have rf1 := HR11.out.frozen 1
   have rf2 := HR11.out.frozen 2
   go_wp2
   refine ⟨rfl,_,xeC _ _ w.heap.size kk zz (mm == 1) rfl (HR11.out.all kk zz (mm == 1)),rfl,HL8.out.heap ?_,((HC11.out.far w.heap.size 0 _ (Nat.le_refl _)).far w.heap.size 1 _ (Nat.le_refl _)).far w.heap.size 2 _ (Nat.le_refl _)⟩
   have hPR : P ≠ w.heap.size := by omega
   rw [Below.heap_setCell _ _ _ _ hPR,Below.heap_setCell _ _ _ _ hPR,Below.heap_setCell _ _ _ _ hPR]
 ·by_cases q6 : qq = 66
  ·subst q6
   clear q5
   by_cases k6 : kk = 126
   ·subst k6
    go_wp2_with fail
    refine (HL4.out.say _ _).mono ?_
    rintro r w5 ⟨rfl,h5,c5⟩
    have HL5 : Hid (CL w5 P l4 n a5) := by unfold Hid; rw [<- E5.out]; exact h5
    have HX6 : Hid (G3 w5 X 126 0 (mm == 1)) := HX5.out.chg c5 hXP
    have HR7 : Hid (G3 w5 w.heap.size 0 0 false) := HR6.out.chg c5 (by omega)
    have HC7 : Hid (Chg P w w5) := HC6.out.trans c5
    obtain ⟨x0,x1,x2⟩ := HX6.out.cell
    clear h5 c5 HL4 HX5 HR6 HC6 E5
    go_wp2_with fail
    refine (HL5.out.say _ _).mono ?_
    rintro r w6 ⟨rfl,h6,c6⟩
    have h6' : CL w6 P l4 n a6 := by rw [<- E6.out]; exact h6
    have HX7 : Hid (G3 w6 X 126 0 (mm == 1)) := HX6.out.chg c6 hXP
    have HR8 : Hid (G3 w6 w.heap.size 0 0 false) := HR7.out.chg c6 (by omega)
    have HC8 : Hid (Chg P w w6) := HC7.out.trans c6
    have HS := kZz (ybH P 64 (by decide) l4 n a6 w6 h6')
    rw [show xfM 64 l4 a6 = (zz,l7,a7) from (by have := E7.out; simpa using this)] at HS
    dsimp only at HS
    clear h6 h6' c6 HL5 HX6 HR7 HC7 E6 E7 x0 x1 x2
    go_wp2_with fail
    refine HS.out.mono ?_
    rintro r w7 ⟨rfl,h7,c7⟩
    have HX8 : Hid (G3 w7 X 126 0 (mm == 1)) := HX7.out.chg c7 hXP
    have HR9 : Hid (G3 w7 w.heap.size 0 0 false) := HR8.out.chg c7 (by omega)
    have HC9 : Hid (Chg P w w7) := HC8.out.trans c7
    obtain ⟨x0,x1,x2⟩ := HX8.out.cell
    have xf := HX8.out.frozen 2
    obtain ⟨v7,hv7⟩ : ∃ v7,v7 = w7.setCell ⟨X,2,none⟩ (.int .i64 zz) := ⟨_,rfl⟩
    have HV7 := kZz hv7
    have HX9 : Hid (G3 v7 X 126 zz (mm == 1)) := by unfold Hid; rw [hv7]; exact HX8.out.set2 _
    have HR10 : Hid (G3 v7 w.heap.size 0 0 false) := by unfold Hid; rw [hv7]; exact HR9.out.chg (Chg.set _ _ _ _) (Ne.symm hXR)
    have HC10 : Hid (Chg P w v7) := by unfold Hid; rw [hv7]; exact HC9.out.far X 2 _ hXw
    have HM := kZz (xeU P 11 4 l7 n a7 v7 (h7.heap (by rw [hv7]; exact Below.heap_setCell _ _ _ _ (Ne.symm hXP))))
    rw [E8.out] at HM
    dsimp only at HM
    clear h7 c7 hv7 HS HX7 HR8 HC8 HX8 HR9 HC9 E8
    go_wp2_with fail
    rw [<- HV7.out]
    refine HM.out.mono ?_
    rintro r w8 ⟨rfl,h8,c8⟩
    have HX11 : Hid (G3 w8 X 126 zz (mm == 1)) := HX9.out.chg c8 hXP
    have HR11 : Hid (G3 w8 w.heap.size 0 0 false) := HR10.out.chg c8 (by omega)
    have HC11 : Hid (Chg P w w8) := HC10.out.trans c8
    have HL8 : Hid (CL w8 P l8 n a8) := h8
    clear h8 c8 HM HX9 HR10 HC10 HV7 x0 x1 x2 xf
    obtain ⟨x0,x1,x2⟩ := HX11.out.cell
    obtain ⟨r0,r1,r2⟩ := HR11.out.cell
    have rf0 := HR11.out.frozen 0
    have rf1 := HR11.out.frozen 1
    have rf2 := HR11.out.frozen 2
    go_wp2
    refine ⟨rfl,_,xeC _ _ w.heap.size 126 zz (mm == 1) rfl (HR11.out.all 126 zz (mm == 1)),rfl,HL8.out.heap ?_,((HC11.out.far w.heap.size 0 _ (Nat.le_refl _)).far w.heap.size 1 _ (Nat.le_refl _)).far w.heap.size 2 _ (Nat.le_refl _)⟩
    have hPR : P ≠ w.heap.size := by omega
    rw [Below.heap_setCell _ _ _ _ hPR,Below.heap_setCell _ _ _ _ hPR,Below.heap_setCell _ _ _ _ hPR]
   ·skip
    have k6b : (kk == 126) = false := by rw [beq_eq_false_iff_ne]; exact k6
    have k6n : (kk != 126) = true := by rw [bne,k6b]; rfl
    have HB6 : Hid ((((66 : Int) == 65 && kk != 127) || ((66 : Int) == 66 && kk != 126)) = true) := by unfold Hid; rw [k6n]; rfl
    go_wp2_with fail
    refine (HL4.out.say _ _).mono ?_
    rintro r w5 ⟨rfl,h5,c5⟩
    have HL5 : Hid (CL w5 P l4 n a5) := by unfold Hid; rw [<- E5.out]; exact h5
    have HX6 : Hid (G3 w5 X kk 0 (mm == 1)) := HX5.out.chg c5 hXP
    have HR7 : Hid (G3 w5 w.heap.size 0 0 false) := HR6.out.chg c5 (by omega)
    have HC7 : Hid (Chg P w w5) := HC6.out.trans c5
    obtain ⟨x0,x1,x2⟩ := HX6.out.cell
    clear h5 c5 HL4 HX5 HR6 HC6 E5
    go_wp2_with fail
    refine (HL5.out.say _ _).mono ?_
    rintro r w6 ⟨rfl,h6,c6⟩
    have h6' : CL w6 P l4 n a6 := by rw [<- E6.out,HB6.out]; exact h6
    have HX7 : Hid (G3 w6 X kk 0 (mm == 1)) := HX6.out.chg c6 hXP
    have HR8 : Hid (G3 w6 w.heap.size 0 0 false) := HR7.out.chg c6 (by omega)
    have HC8 : Hid (Chg P w w6) := HC7.out.trans c6
    have HS := kZz (ybH P 64 (by decide) l4 n a6 w6 h6')
    rw [show xfM 64 l4 a6 = (zz,l7,a7) from (by have := E7.out; simpa using this)] at HS
    dsimp only at HS
    clear h6 h6' c6 HL5 HX6 HR7 HC7 E6 E7 x0 x1 x2
    go_wp2_with fail
    refine HS.out.mono ?_
    rintro r w7 ⟨rfl,h7,c7⟩
    have HX8 : Hid (G3 w7 X kk 0 (mm == 1)) := HX7.out.chg c7 hXP
    have HR9 : Hid (G3 w7 w.heap.size 0 0 false) := HR8.out.chg c7 (by omega)
    have HC9 : Hid (Chg P w w7) := HC8.out.trans c7
    obtain ⟨x0,x1,x2⟩ := HX8.out.cell
    have xf := HX8.out.frozen 2
    obtain ⟨v7,hv7⟩ : ∃ v7,v7 = w7.setCell ⟨X,2,none⟩ (.int .i64 zz) := ⟨_,rfl⟩
    have HV7 := kZz hv7
    have HX9 : Hid (G3 v7 X kk zz (mm == 1)) := by unfold Hid; rw [hv7]; exact HX8.out.set2 _
    have HR10 : Hid (G3 v7 w.heap.size 0 0 false) := by unfold Hid; rw [hv7]; exact HR9.out.chg (Chg.set _ _ _ _) (Ne.symm hXR)
    have HC10 : Hid (Chg P w v7) := by unfold Hid; rw [hv7]; exact HC9.out.far X 2 _ hXw
    have HM := kZz (xeU P 11 4 l7 n a7 v7 (h7.heap (by rw [hv7]; exact Below.heap_setCell _ _ _ _ (Ne.symm hXP))))
    rw [E8.out] at HM
    dsimp only at HM
    clear h7 c7 hv7 HS HX7 HR8 HC8 HX8 HR9 HC9 E8
    go_wp2_with fail
    rw [<- HV7.out]
    refine HM.out.mono ?_
    rintro r w8 ⟨rfl,h8,c8⟩
    have HX11 : Hid (G3 w8 X kk zz (mm == 1)) := HX9.out.chg c8 hXP
    have HR11 : Hid (G3 w8 w.heap.size 0 0 false) := HR10.out.chg c8 (by omega)
    have HC11 : Hid (Chg P w w8) := HC10.out.trans c8
    have HL8 : Hid (CL w8 P l8 n a8) := h8
    clear h8 c8 HM HX9 HR10 HC10 HV7 x0 x1 x2 xf
    obtain ⟨x0,x1,x2⟩ := HX11.out.cell
    obtain ⟨r0,r1,r2⟩ := HR11.out.cell
    have rf0 := HR11.out.frozen 0
    have rf1 := HR11.out.frozen 1
    have rf2 := HR11.out.frozen 2
    go_wp2
    refine ⟨rfl,_,xeC _ _ w.heap.size kk zz (mm == 1) rfl (HR11.out.all kk zz (mm == 1)),rfl,HL8.out.heap ?_,((HC11.out.far w.heap.size 0 _ (Nat.le_refl _)).far w.heap.size 1 _ (Nat.le_refl _)).far w.heap.size 2 _ (Nat.le_refl _)⟩
    have hPR : P ≠ w.heap.size := by omega
    rw [Below.heap_setCell _ _ _ _ hPR,Below.heap_setCell _ _ _ _ hPR,Below.heap_setCell _ _ _ _ hPR]
  ·skip
   have q5b : (qq == 65) = false := by rw [beq_eq_false_iff_ne]; exact q5
   have q5n : (qq != 65) = true := by rw [bne,q5b]; rfl
   have q6b : (qq == 66) = false := by rw [beq_eq_false_iff_ne]; exact q6
   have q6n : (qq != 66) = true := by rw [bne,q6b]; rfl
   have HB5 : Hid ((qq != 65 && qq != 66) = true) := by unfold Hid; rw [q5n,q6n]; rfl
   have HB6 : Hid (((qq == 65 && kk != 127) || (qq == 66 && kk != 126)) = false) := by unfold Hid; rw [q5b,q6b]; rfl
   have HQ5 : Hid (¬ qq = 65) := q5
   go_wp2_with fail
   refine (HL4.out.say _ _).mono ?_
   rintro r w5 ⟨rfl,h5,c5⟩
   have HL5 : Hid (CL w5 P l4 n a5) := by unfold Hid; rw [<- E5.out,HB5.out]; exact h5
   have HX6 : Hid (G3 w5 X kk 0 (mm == 1)) := HX5.out.chg c5 hXP
   have HR7 : Hid (G3 w5 w.heap.size 0 0 false) := HR6.out.chg c5 (by omega)
   have HC7 : Hid (Chg P w w5) := HC6.out.trans c5
   obtain ⟨x0,x1,x2⟩ := HX6.out.cell
   clear h5 c5 HL4 HX5 HR6 HC6 E5
   go_wp2_with fail
   refine (HL5.out.say _ _).mono ?_
   rintro r w6 ⟨rfl,h6,c6⟩
   have h6' : CL w6 P l4 n a6 := by rw [<- E6.out,HB6.out]; exact h6
   have HX7 : Hid (G3 w6 X kk 0 (mm == 1)) := HX6.out.chg c6 hXP
   have HR8 : Hid (G3 w6 w.heap.size 0 0 false) := HR7.out.chg c6 (by omega)
   have HC8 : Hid (Chg P w w6) := HC7.out.trans c6
   have HS := kZz (ybH P 64 (by decide) l4 n a6 w6 h6')
   rw [show xfM 64 l4 a6 = (zz,l7,a7) from (by have := E7.out; rw [if_neg HQ5.out] at this; exact this)] at HS
   dsimp only at HS
   clear h6 h6' c6 HL5 HX6 HR7 HC7 E6 E7 x0 x1 x2
   go_wp2_with fail
   refine HS.out.mono ?_
   rintro r w7 ⟨rfl,h7,c7⟩
   have HX8 : Hid (G3 w7 X kk 0 (mm == 1)) := HX7.out.chg c7 hXP
   have HR9 : Hid (G3 w7 w.heap.size 0 0 false) := HR8.out.chg c7 (by omega)
   have HC9 : Hid (Chg P w w7) := HC8.out.trans c7
   obtain ⟨x0,x1,x2⟩ := HX8.out.cell
   have xf := HX8.out.frozen 2
   obtain ⟨v7,hv7⟩ : ∃ v7,v7 = w7.setCell ⟨X,2,none⟩ (.int .i64 zz) := ⟨_,rfl⟩
   have HV7 := kZz hv7
   have HX9 : Hid (G3 v7 X kk zz (mm == 1)) := by unfold Hid; rw [hv7]; exact HX8.out.set2 _
   have HR10 : Hid (G3 v7 w.heap.size 0 0 false) := by unfold Hid; rw [hv7]; exact HR9.out.chg (Chg.set _ _ _ _) (Ne.symm hXR)
   have HC10 : Hid (Chg P w v7) := by unfold Hid; rw [hv7]; exact HC9.out.far X 2 _ hXw
   have HM := kZz (xeU P 11 4 l7 n a7 v7 (h7.heap (by rw [hv7]; exact Below.heap_setCell _ _ _ _ (Ne.symm hXP))))
   rw [E8.out] at HM
   dsimp only at HM
   clear h7 c7 hv7 HS HX7 HR8 HC8 HX8 HR9 HC9 E8
   go_wp2_with fail
   rw [<- HV7.out]
   refine HM.out.mono ?_
   rintro r w8 ⟨rfl,h8,c8⟩
   have HX11 : Hid (G3 w8 X kk zz (mm == 1)) := HX9.out.chg c8 hXP
   have HR11 : Hid (G3 w8 w.heap.size 0 0 false) := HR10.out.chg c8 (by omega)
   have HC11 : Hid (Chg P w w8) := HC10.out.trans c8
   have HL8 : Hid (CL w8 P l8 n a8) := h8
   clear h8 c8 HM HX9 HR10 HC10 HV7 x0 x1 x2 xf
   obtain ⟨x0,x1,x2⟩ := HX11.out.cell
   obtain ⟨r0,r1,r2⟩ := HR11.out.cell
   have rf0 := HR11.out.frozen 0
   have rf1 := HR11.out.frozen 1
   have rf2 := HR11.out.frozen 2
   go_wp2
   refine ⟨rfl,_,xeC _ _ w.heap.size kk zz (mm == 1) rfl (HR11.out.all kk zz (mm == 1)),rfl,HL8.out.heap ?_,((HC11.out.far w.heap.size 0 _ (Nat.le_refl _)).far w.heap.size 1 _ (Nat.le_refl _)).far w.heap.size 2 _ (Nat.le_refl _)⟩
   have hPR : P ≠ w.heap.size := by omega
   rw [Below.heap_setCell _ _ _ _ hPR,Below.heap_setCell _ _ _ _ hPR,Below.heap_setCell _ _ _ _ hPR]
end Go.Proofs.YtmmjgdaamkdncaaGreatDoor
