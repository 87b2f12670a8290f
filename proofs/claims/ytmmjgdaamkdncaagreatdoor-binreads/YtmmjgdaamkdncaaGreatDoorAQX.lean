import Derived.Test.YtmmjgdaamkdncaaGreatDoorAQB
import Derived.Test.YtmmjgdaamkdncaaGreatDoorABRow
namespace Go.Proofs.YtmmjgdaamkdncaaGreatDoor
set_option maxHeartbeats 1000000
set_option maxRecDepth 1000000
set_option linter.unusedVariables false
open Go.RowKit
theorem xrP (l : List Int) (hl : Bts l) : (∃ e : Int,(e == 0) = false /\ rU 32 l = (0,0,e) /\ xeG l = .error e) \/ ∃ m k : Nat,m < 4294967296 /\ k <= l.length /\ k <= 10 /\ rU 32 l = ((m : Int),(k : Int),0) /\ xeG l = .ok ((m : Int),l.drop k) := by
 have hlt := xmQ l hl
 rcases ykT 32 (Or.inl rfl) l hl with ⟨e,he,hr⟩ | ⟨m,k,_,_,h3,hr⟩
 ·left
  have h0 : ¬ e = 0 := by simpa using he
  refine ⟨e,by simpa using he,hr,?_⟩
  unfold xeG
  rw [hr,if_neg h0]
 ·right
  rw [hr] at hlt
  refine ⟨m,k,by simp only at hlt; omega,h3,?_,hr,?_⟩
  ·have hu : rU 32 l = rdl xeV 32 l 0 0 := by rw [rU,if_pos (Or.inl rfl)]
   rcases xfI xeV 32 (Or.inl rfl) l hl with h | h | ⟨f,b,t,_,_,_,_,h1,_,h⟩
   ·rw [hu,h] at hr; simp at hr
   ·rw [hu,h] at hr; simp at hr
   ·rw [hu,h] at hr
    simp only [Prod.mk.injEq] at hr
    have := hr.2.1
    omega
  ·unfold xeG
   rw [hr]
   simp
theorem xtG (P : Nat) (s : ByteArray) (e : Int) (_he : (e == 0) = false) (hs : s.size <= maxLen) (w : World) (h : BS w P s) (HU : Hid (rU 32 (xaX s) = (0,0,e))) :
  Calls Tryz.prog 47 #[.pointer (some ⟨P,0,none⟩)] w fun r w' => r = pan e /\ w' = w := by
 have hc := h.c
 clear h
 go_enter Tryz.func47,Tryz.ntmps47
 go_wp2_with fail
 refine (xdL s 32 _ _ _ hs HU _).mono ?_
 rintro r w1 ⟨rfl,rfl⟩
 go_wp2_with fail
 refine (xhC P 0 e _he _).mono ?_
 rintro r w1 ⟨rfl,rfl⟩
 exact ⟨rfl,rfl,rfl⟩
theorem xwT (P : Nat) (s : ByteArray) (m k : Nat) (_hm : m < 4294967296) (hk : k <= s.size) (hs : s.size <= 4096) (w : World) (h : BS w P s) (HU : Hid (rU 32 (xaX s) = ((m : Int),(k : Int),0))) :
  Calls Tryz.prog 47 #[.pointer (some ⟨P,0,none⟩)] w fun r w' => r = .returned (.int .i64 (m : Int)) /\ BS w' P (s.extract k s.size) /\ Chg P w w' := by
 have hc := h.c
 have HR : Hid (BS w P s) := h
 clear h
 go_enter Tryz.func47,Tryz.ntmps47
 go_wp2_with fail
 refine (xdL s 32 _ _ _ (by unfold maxLen; omega) HU _).mono ?_
 rintro r w1 ⟨rfl,rfl⟩
 go_wp2_with fail
 refine (xjO P s k hs hk _ HR.out).mono ?_
 rintro r w1 ⟨rfl,b1,c1⟩
 have HB := kZz b1
 clear b1
 go_wp2
 go_ret
 exact ⟨rfl,HB.out,c1⟩
theorem BS.BR {w : World} {P k : Nat} {s : ByteArray} {l : List Int} (h : BS w P (s.extract k s.size)) (hs : s.size <= 4096) (hl : xaX s = l) : BR w P (l.drop k) :=
 ⟨_,by rw [xbN,hl],by rw [ByteArray.size_extract]; omega,h⟩
theorem xgZ (P : Nat) (l : List Int) (w : World) (h : BR w P l) :
  Calls Tryz.prog 47 #[.pointer (some ⟨P,0,none⟩)] w (Out P yfF (xeG l) w) := by
 have hb := h.byte
 obtain ⟨s,rfl,hs,h⟩ := h
 rcases xrP (xaX s) hb with ⟨e,he,hr,hx⟩ | ⟨m,k,hm,hk,_,hr,hx⟩
 ·refine (xtG P s e he (by unfold maxLen; omega) w h hr).mono ?_
  rintro r w' ⟨rfl,rfl⟩
  exact Out.mkE hx (Chg.refl _ _)
 ·rw [xaY] at hk
  refine (xwT P s m k hm hk hs w h hr).mono ?_
  rintro r w' ⟨rfl,b,c⟩
  exact Out.mkO hx c rfl (b.BR hs rfl)
theorem yhW (B : Int) (hB : B = 32 \/ B = 64) (l : List Int) (hl : Bts l) : (∃ e : Int,(e == 0) = false /\ rS B l = (0,0,e) /\ xmO B l = .error e) \/ ∃ n : Int,∃ k : Nat,-9223372036854775808 <= n /\ n <= 9223372036854775807 /\ k <= l.length /\ rS B l = (n,(k : Int),0) /\ xmO B l = .ok (n,l.drop k) := by
 rcases yfE B hB l hl with ⟨e,he,hr⟩ | ⟨n,k,h1,h2,_,h3,hr⟩
 ·left
  have h0 : ¬ e = 0 := by simpa using he
  refine ⟨e,by simpa using he,hr,?_⟩
  unfold xmO
  rw [hr,if_neg h0]
 ·right
  refine ⟨n,k,h1,h2,h3,hr,?_⟩
  unfold xmO
  rw [hr]
  simp
theorem xqK (P : Nat) (B : Int) (s : ByteArray) (e : Int) (_he : (e == 0) = false) (w : World) (h : BS w P s) (HU : Hid (∀ w,Calls Tryz.prog 94 #[.string s,.int .i64 B] w fun e' w' => e' = .returned (.tuple #[.int .i64 0,.int .i64 0,.int .i64 e]) /\ w' = w)) :
  Calls Tryz.prog 79 #[.pointer (some ⟨P,0,none⟩),.int .i64 B] w fun r w' => r = pan e /\ w' = w := by
 have hc := h.c
 clear h
 go_enter Tryz.func79,Tryz.ntmps79
 go_wp2_with fail
 refine (HU.out _).mono ?_
 rintro r w1 ⟨rfl,rfl⟩
 go_wp2_with fail
 refine (xhC P 0 e _he _).mono ?_
 rintro r w1 ⟨rfl,rfl⟩
 exact ⟨rfl,rfl,rfl⟩
theorem xuS (P : Nat) (B : Int) (s : ByteArray) (n : Int) (k : Nat) (hk : k <= s.size) (hs : s.size <= 4096) (w : World) (h : BS w P s) (HU : Hid (∀ w,Calls Tryz.prog 94 #[.string s,.int .i64 B] w fun e' w' => e' = .returned (.tuple #[.int .i64 n,.int .i64 (k : Int),.int .i64 0]) /\ w' = w)) :
  Calls Tryz.prog 79 #[.pointer (some ⟨P,0,none⟩),.int .i64 B] w fun r w' => r = .returned (.int .i64 n) /\ BS w' P (s.extract k s.size) /\ Chg P w w' := by
 have hc := h.c
 have HR : Hid (BS w P s) := h
 clear h
 go_enter Tryz.func79,Tryz.ntmps79
 go_wp2_with fail
 refine (HU.out _).mono ?_
 rintro r w1 ⟨rfl,rfl⟩
 go_wp2_with fail
 refine (xjO P s k hs hk _ HR.out).mono ?_
 rintro r w1 ⟨rfl,b1,c1⟩
 have HB := kZz b1
 clear b1
 go_wp2
 go_ret
 exact ⟨rfl,HB.out,c1⟩
theorem xqJ (P : Nat) (B : Int) (hB : B = 32 \/ B = 64) (l : List Int) (w : World) (h : BR w P l) :
  Calls Tryz.prog 79 #[.pointer (some ⟨P,0,none⟩),.int .i64 B] w (Out P yfF (xmO B l) w) := by
 have hb := h.byte
 obtain ⟨s,rfl,hs,h⟩ := h
 have hR : ∀ n k e,rS B (xaX s) = (n,k,e) -> ∀ w,Calls Tryz.prog 94 #[.string s,.int .i64 B] w fun e' w' => e' = .returned (.tuple #[.int .i64 n,.int .i64 k,.int .i64 e]) /\ w' = w := fun n k e hr w => by
  rcases hB with rfl | rfl
  ·exact xkU s n k e (by unfold maxLen; omega) hr w
  ·exact xkV s n k e (by unfold maxLen; omega) hr w
 rcases yhW B hB (xaX s) hb with ⟨e,he,hr,hx⟩ | ⟨m,k,hm,hm2,hk,hr,hx⟩
 ·refine (xqK P B s e he w h (hR _ _ _ hr)).mono ?_
  rintro r w' ⟨rfl,rfl⟩
  exact Out.mkE hx (Chg.refl _ _)
 ·rw [xaY] at hk
  refine (xuS P B s m k hk hs w h (hR _ _ _ hr)).mono ?_
  rintro r w' ⟨rfl,b,c⟩
  exact Out.mkO hx c rfl (b.BR hs rfl)
theorem xeX (P : Nat) (most : Int) (l : List Int) (w : World) (h : BR w P l) :
  Calls Tryz.prog 74 #[.pointer (some ⟨P,0,none⟩),.int .i64 most] w (Out P yfF (xbX most l) w) := by
 have HN := kZz (xgZ P l w h)
 clear h
 go_enter Tryz.func74,Tryz.ntmps74
 go_wp2_with fail
 refine HN.out.mono ?_
 intro r w1 ho
 cases hx : xeG l with
 | error x =>
  obtain ⟨c,rfl⟩ := ho.err hx
  exact ⟨rfl,Out.mkE (xaW hx) c⟩
 | ok p =>
  obtain ⟨n,l1⟩ := p
  obtain ⟨c,⟨v,rfl,rfl⟩,hb⟩ := ho.got hx
  have HB : Hid (BR w1 P l1) := hb
  have HX : Hid (xbX most l = (nxt (need (decide (n <= most)) 2) fun _ => ret n) l1) := xaV hx
  clear hx ho hb HN
  cases hq : decide (n <= most) with
  | true =>
   rw [hq] at HX
   go_wp2_with fail
   refine (xbB _ _).mono ?_
   rintro r w2 ⟨rfl,rfl⟩
   go_wp2
   go_ret
   exact Out.mkO HX.out c rfl HB.out
  | false =>
   rw [hq] at HX
   go_wp2_with fail
   refine (xbA _ _).mono ?_
   rintro r w2 ⟨rfl,rfl⟩
   exact ⟨rfl,Out.mkE HX.out c⟩
theorem xuZ (k : Int) (w : World) : Calls Tryz.prog 92 #[.int .u8 k] w fun r w' => r = .returned (.bool (isK k)) /\ w' = w := by
 unfold isK
 cases h1 : (k == 127) with
 | true =>
  go_enter Tryz.func92,Tryz.ntmps92
  go_wp2
  go_ret
  exact ⟨rfl,rfl⟩
 | false =>
  cases h2 : (k == 126) with
  | true =>
   go_enter Tryz.func92,Tryz.ntmps92
   go_wp2
   go_ret
   exact ⟨rfl,rfl⟩
  | false =>
   go_enter Tryz.func92,Tryz.ntmps92
   go_wp2
   go_ret
   exact ⟨rfl,rfl⟩
theorem yfO (P : Nat) (l : List Int) (w : World) (h : BR w P l) :
  Calls Tryz.prog 76 #[.pointer (some ⟨P,0,none⟩)] w (Out P ycV (xgN l) w) := by
 have HN := kZz (xxP P l w h)
 clear h
 go_enter Tryz.func76,Tryz.ntmps76
 go_wp2_with fail
 refine HN.out.mono ?_
 intro r w1 ho
 cases hx : xfH l with
 | error x =>
  obtain ⟨c,rfl⟩ := ho.err hx
  exact ⟨rfl,Out.mkE (xaW hx) c⟩
 | ok p =>
  obtain ⟨n,l1⟩ := p
  obtain ⟨c,⟨v,rfl,rfl⟩,hb⟩ := ho.got hx
  have HB : Hid (BR w1 P l1) := hb
  have HX : Hid (xgN l = (nxt (need (isK n) 6) fun _ => ret n) l1) := xaV hx
  have HK := kZz (xuZ n)
  clear hx ho hb HN
  cases hq : isK n with
  | true =>
   rw [hq] at HX HK
   go_wp2_with fail
   refine (HK.out _).mono ?_
   rintro r w2 ⟨rfl,rfl⟩
   go_wp2_with fail
   refine (xbB _ _).mono ?_
   rintro r w2 ⟨rfl,rfl⟩
   go_wp2
   go_ret
   exact Out.mkO HX.out c rfl HB.out
  | false =>
   rw [hq] at HX HK
   go_wp2_with fail
   refine (HK.out _).mono ?_
   rintro r w2 ⟨rfl,rfl⟩
   go_wp2_with fail
   refine (xbA _ _).mono ?_
   rintro r w2 ⟨rfl,rfl⟩
   exact ⟨rfl,Out.mkE HX.out c⟩
theorem ycX (P : Nat) (l : List Int) (w : World) (h : BR w P l) :
  Calls Tryz.prog 81 #[.pointer (some ⟨P,0,none⟩)] w (Out P yfF (xfP l) w) := by
 have HN := kZz (xcA P l 0 6 w h)
 clear h
 go_enter Tryz.func81,Tryz.ntmps81
 go_wp2_with fail
 refine HN.out.mono ?_
 clear HN
 intro r w1 ho
 cases hx : xfX 0 6 l with
 | error x =>
  obtain ⟨c,rfl⟩ := ho.err hx
  exact ⟨rfl,Out.mkE (xaW hx) c⟩
 | ok p =>
  obtain ⟨_,l1⟩ := p
  obtain ⟨c,⟨v,rfl,rfl⟩,hb⟩ := ho.got hx
  have HX : Hid (xfP l = _) := xaV hx
  have HN := kZz (xcA P l1 65 6 w1 hb)
  clear hx ho hb
  go_wp2_with fail
  refine HN.out.mono ?_
  clear HN
  intro r w2 ho
  cases hx : xfX 65 6 l1 with
  | error x =>
   obtain ⟨c2,rfl⟩ := ho.err hx
   exact ⟨rfl,Out.mkE (HX.out.trans (xaW hx)) (c.trans c2)⟩
  | ok p =>
   obtain ⟨_,l2⟩ := p
   obtain ⟨c2,⟨v,rfl,rfl⟩,hb⟩ := ho.got hx
   have HX2 : Hid (xfP l = _) := HX.out.trans (xaV hx)
   have HN := kZz (xqJ P 32 (Or.inl rfl) l2 w2 hb)
   clear hx ho hb HX
   go_wp2_with fail
   refine HN.out.mono ?_
   clear HN
   intro r w3 ho
   cases hx : xmO 32 l2 with
   | error x =>
    obtain ⟨c3,rfl⟩ := ho.err hx
    exact ⟨rfl,Out.mkE (HX2.out.trans (xaW hx)) ((c.trans c2).trans c3)⟩
   | ok p =>
    obtain ⟨n,l3⟩ := p
    obtain ⟨c3,⟨v,rfl,rfl⟩,hb⟩ := ho.got hx
    have HX3 : Hid (xfP l = _) := HX2.out.trans (xaV hx)
    have HN := kZz (xcA P l3 11 4 w3 hb)
    clear hx ho hb HX2
    go_wp2_with fail
    refine HN.out.mono ?_
    clear HN
    intro r w4 ho
    cases hx : xfX 11 4 l3 with
    | error x =>
     obtain ⟨c4,rfl⟩ := ho.err hx
     exact ⟨rfl,Out.mkE (HX3.out.trans (xaW hx)) (((c.trans c2).trans c3).trans c4)⟩
    | ok p =>
     obtain ⟨_,l4⟩ := p
     obtain ⟨c4,⟨v,rfl,rfl⟩,hb⟩ := ho.got hx
     have HX4 : Hid (xfP l = _) := HX3.out.trans (xaV hx)
     have HB : Hid (BR w4 P l4) := hb
     clear hx ho hb HX3
     go_wp2
     go_ret
     exact Out.mkO HX4.out (((c.trans c2).trans c3).trans c4) rfl HB.out
def Amb (w : World) : Prop := TabIn w /\ Lib.Utf8Tabs 0 1 w /\ 3 < w.heap.size
theorem Amb.to {w w' : World} (h : Amb w) (b : Below 4 w w') : Amb w' := by
 obtain ⟨h1,h2,h3⟩ := h
 refine ⟨h1.of_cells fun j => b.cell (p := ⟨3,j,none⟩) (by show (3 : Nat) < 4; omega),⟨fun c hc => ?_,fun i hi => ⟨?_,?_⟩⟩,by have := b.size; omega⟩
 ·rw [b.cell (p := ⟨0,c,none⟩) (by show (0 : Nat) < 4; omega)]; exact h2.1 c hc
 ·rw [b.cell (p := ⟨1,2 * i,none⟩) (by show (1 : Nat) < 4; omega)]; exact (h2.2 i hi).1
 ·rw [b.cell (p := ⟨1,2 * i + 1,none⟩) (by show (1 : Nat) < 4; omega)]; exact (h2.2 i hi).2
theorem Amb.below {w w' : World} (h : Amb w) (b : Below w.heap.size w w') : Amb w' := h.to (b.mono (by have := h.2.2; omega))
theorem Amb.chg {w w' : World} {P : Nat} (h : Amb w) (c : Chg P w w') (hP : 4 <= P) : Amb w' := h.to (c.below hP (by have := h.2.2; omega))
theorem xqD (t : ByteArray) : txt (xaX t) = t.data.toList := by
 unfold txt xaX
 rw [List.map_map]
 conv => rhs; rw [<- List.map_id t.data.toList]
 apply List.map_congr_left
 intro x _
 simp
theorem xfU (t : ByteArray) : xrL (xaX t) = Lib.validD t.data.toList := by unfold xrL; rw [xqD]
theorem xnA (s : ByteArray) (hs : s.size <= 4096) (w : World) (hA : Amb w) :
  Calls Tryz.prog 93 #[.string s] w fun r w' => Below w.heap.size w w' /\
   ((∃ e : Int,(e == 0) = false /\ xdV (xaX s) = .error e /\ r = .returned (.tuple #[.string ⟨#[]⟩,.int .i64 0,.int .i64 e])) \/
    ∃ (T : ByteArray) (k : Nat),k <= s.size /\ xdV (xaX s) = .ok (xaX T,(xaX s).drop k) /\ r = .returned (.tuple #[.string T,.int .i64 (k : Int),.int .i64 0])) := by
 have hm : s.size <= maxLen := by unfold maxLen; omega
 have hU : Hid (Lib.Utf8Tabs 0 1 w) := hA.2.1
 rcases xrP (xaX s) (xaE s) with ⟨e,he,hr,hx⟩ | ⟨n,k,hn,hk,hk10,hr,hx⟩
 ·refine (xnC s e w hm (by rw [bne,he]; rfl) hr).mono ?_
  rintro r w' ⟨rfl,b⟩
  exact ⟨b,Or.inl ⟨e,he,by unfold xdV xbX; rw [xaW (xaW hx)],rfl⟩⟩
 ·rw [xaY] at hk
  by_cases h16 : n <= 16
  ·have hc : xbX 16 (xaX s) = .ok ((n : Int),(xaX s).drop k) := by
    unfold xbX
    rw [xaV hx,xaV (xdU (decide_eq_true (by omega)) _ _)]
    rfl
   by_cases hlt : s.size < k + n
   ·refine (xlQ s n k w hm h16 hk10 (by omega) hr).mono ?_
    rintro r w' ⟨rfl,b⟩
    refine ⟨b,Or.inl ⟨3,rfl,?_,rfl⟩⟩
    unfold xdV
    rw [xaV hc]
    apply xaW
    unfold xbR
    rw [if_neg (by rw [List.length_drop,xaY]; omega)]
   ·have hpc : xbR (n : Int) ((xaX s).drop k) = .ok (xaX (s.extract k (k + n)),(xaX s).drop (k + n)) := by
     unfold xbR
     rw [if_pos (by rw [List.length_drop,xaY]; omega),Int.toNat_natCast,xcV,List.drop_drop,show k + n - k = n by omega]
    have hTz : (s.extract k (k + n)).size <= 16 := by rw [ByteArray.size_extract]; omega
    cases hv : Lib.validD (s.extract k (k + n)).data.toList with
    | false =>
     refine (xnB xuK xqM s _ n k w hm h16 hk10 (by omega) hr rfl hTz hv hU).mono ?_
     rintro r w' ⟨rfl,b⟩
     refine ⟨b,Or.inl ⟨4,rfl,?_,rfl⟩⟩
     unfold xdV
     rw [xaV hc,xaV hpc]
     apply xaW
     rw [xfU,hv]
     rfl
    | true =>
     refine (xpF xuK xqM s _ n k w hm h16 hk10 (by omega) hr rfl hTz hv hU).mono ?_
     rintro r w' ⟨rfl,b⟩
     refine ⟨b,Or.inr ⟨s.extract k (k + n),k + n,by omega,?_,by rw [Int.natCast_add]⟩⟩
     unfold xdV
     rw [xaV hc,xaV hpc,xaV (xdU (by rw [xfU]; exact hv) _ _)]
     rfl
  ·refine (xlP s n k w hm (by omega) hr).mono ?_
   rintro r w' ⟨rfl,b⟩
   refine ⟨b,Or.inl ⟨2,rfl,?_,rfl⟩⟩
   unfold xdV xbX
   apply xaW
   rw [xaV hx]
   apply xaW
   rw [decide_eq_false (by omega)]
   rfl
theorem yfR (P : Nat) (l : List Int) (w : World) (h : BR w P l) (hA : Amb w) :
  Calls Tryz.prog 77 #[.pointer (some ⟨P,0,none⟩)] w (Out P ymN (xdV l) w) := by
 obtain ⟨s,rfl,hs,h⟩ := h
 have hc := h.c
 have HR : Hid (BS w P s) := h
 have HN := kZz (xnA s hs w hA)
 clear h hA
 go_enter Tryz.func77,Tryz.ntmps77
 go_wp2_with fail
 refine HN.out.mono ?_
 clear HN
 rintro r w1 ⟨b1,⟨e,he,hx,rfl⟩ | ⟨T,k,hk,hx,rfl⟩⟩
 ·have HX := kZz hx
  clear hx
  go_wp2_with fail
  refine (xhC P 0 e he _).mono ?_
  rintro r w1 ⟨rfl,rfl⟩
  exact ⟨rfl,Out.mkE HX.out (Chg.of_below b1)⟩
 ·have HX := kZz hx
  clear hx
  go_wp2_with fail
  refine (xjO P s k hs hk _ (HR.out.under b1)).mono ?_
  rintro r w2 ⟨rfl,b2,c2⟩
  have HB := kZz b2
  clear b2
  go_wp2
  go_ret
  exact Out.mkO HX.out ((Chg.of_below b1).trans c2) ⟨T,rfl,rfl⟩ (HB.out.BR hs rfl)
def ykP (N : Nat) (V : List V4) (w : World) (v : Value) : Prop := ∃ (o : Option Addr) (cap : Nat) (L : List InsD),v = .slice o L.length cap /\ IR w N o L.length cap L /\ L.map InsD.val = V
theorem IR.base {w : World} {B N k cap : Nat} {o : Option Addr} {L : List InsD} (h : IR w B o k cap L) (hN : N <= B) : IR w N o k cap L := ⟨xbY h.own hN,h.len,h.ok,h.ty⟩
theorem ymU (P N : Nat) (l : List Int) (w : World) (h : BR w P l) (hA : Amb w) (hN : N <= w.heap.size) :
  Calls Tryz.prog 83 #[.pointer (some ⟨P,0,none⟩)] w (Out P (ykP N) (xfF l) w) := by
 obtain ⟨s,rfl,hs,h⟩ := h
 have hc := h.c
 have HR : Hid (BS w P s) := h
 have HN := kZz (xwR s (by unfold maxLen; omega) w hA.1 hA.2.2)
 have HS : Hid (∀ V r,nRd 200 (xaX s) [] = (0,V,r) -> r <:+ xaX s) := fun V r e => (xrE 200 _ _ _ _ (xaE s) e).2.2.2.2.2.1
 clear h hA
 go_enter Tryz.func83,Tryz.ntmps83
 go_wp2_with fail
 refine HN.out.mono ?_
 clear HN
 rintro r w1 ⟨b1,⟨he,rfl⟩ | ⟨he,o,cap,L,rfl,hI,hL⟩⟩
 ·have HX : Hid (xfF (xaX s) = .error (nRd 200 (xaX s) []).1) := by unfold Hid xfF; rw [if_neg he]
  generalize (nRd 200 (xaX s) []).1 = e at he HX
  have he2 : (e == 0) = false := by rw [beq_eq_false_iff_ne]; exact he
  clear he HS
  go_wp2_with fail
  refine (xhC P 0 e he2 _).mono ?_
  rintro r w1 ⟨rfl,rfl⟩
  exact ⟨rfl,Out.mkE HX.out (Chg.of_below b1)⟩
 ·have HX : Hid (xfF (xaX s) = .ok (L.map InsD.val,(nRd 200 (xaX s) []).2.2)) := by unfold Hid xfF; rw [if_pos he,hL]
  have hsu : (nRd 200 (xaX s) []).2.2 <:+ xaX s := HS.out _ _ (Prod.ext he rfl)
  generalize (nRd 200 (xaX s) []).2.2 = q at HX hsu
  have hq := xjW hsu
  have hql := hsu.length_le
  rw [xaY] at hq hql
  obtain ⟨k,hk⟩ : ∃ k : Nat,k = s.size - q.length := ⟨_,rfl⟩
  rw [<- hk] at hq
  rw [show (s.size : Int) - (q.length : Int) = (k : Int) by omega]
  have hks : k <= s.size := by omega
  rw [hq] at HX
  have HI := kZz hI
  clear he hI hL HS hsu hq hql hk
  go_wp2_with fail
  refine (xjO P s k hs hks _ (HR.out.under b1)).mono ?_
  rintro r w2 ⟨rfl,b2,c2⟩
  have HB := kZz b2
  clear b2
  go_wp2
  go_ret
  refine Out.mkO HX.out ((Chg.of_below b1).trans c2) ⟨o,cap,L,rfl,(HI.out.base hN).keep c2.size ?_ ?_,rfl⟩ (HB.out.BR hs rfl)
  ·intro j cur f hj
   exact c2.block j (xaU hj) fun e => by
    have := HR.out.under b1
    unfold BS at this
    rw [e,this] at hj
    simp at hj
  ·intro j cur f hj
   exact c2.block j (xaU hj) fun e => by
    have := HR.out.under b1
    unfold BS at this
    rw [e,this] at hj
    simp at hj
end Go.Proofs.YtmmjgdaamkdncaaGreatDoor
