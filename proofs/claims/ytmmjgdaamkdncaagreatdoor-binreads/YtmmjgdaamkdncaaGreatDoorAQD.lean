import Derived.Test.YtmmjgdaamkdncaaGreatDoorAQB
import Derived.Lib.ValidLaws
import Derived.Lib.TrimUEq
import Derived.Lib.MapLaws
import Derived.Deep.LoopGhost
import Derived.Lib.ValidAsc
import Derived.Test.YtmmjgdaamkdncaaGreatDoorAGRef
namespace Go.Proofs.YtmmjgdaamkdncaaGreatDoor
set_option maxHeartbeats 1000000
set_option maxRecDepth 100000
set_option linter.unusedVariables false
open Go.RowKit
def xjU (b : Nat -> Int) (m : Nat) (least : Int) : Nat -> Nat -> Int -> Int
 | 0,_,v => if v < least \/ 1114111 < v \/ (55296 <= v /\ v <= 57343) then 0 else m
 | f + 1,i,v => if b i < 128 \/ 191 < b i then 0 else xjU b m least f (i + 1) (v * 64 + b i - 128)
theorem xcM {b : Nat -> Int} {m f i : Nat} {least v : Int} (h : b i < 128 \/ 191 < b i) : xjU b m least (f + 1) i v = 0 := by rw [xjU,if_pos h]
theorem xcC {b : Nat -> Int} {m f i : Nat} {least v : Int} (h1 : ¬ b i < 128) (h2 : ¬ 191 < b i) : xjU b m least (f + 1) i v = xjU b m least f (i + 1) (v * 64 + b i - 128) := by
 rw [xjU,if_neg (by omega)]
def byt (s : ByteArray) (i : Nat) : Int := (xaX s).getD i 0
theorem xsP (s : ByteArray) (i : Nat) (h : i < s.size) : byt s i = (s[i].toNat : Int) := by
 unfold byt
 have hl : i < (xaX s).length := by rw [xaY]; exact h
 rw [List.getD_eq_getElem?_getD,List.getElem?_eq_getElem hl,Option.getD_some]
 simp only [xaX,List.getElem_map]
 rfl
theorem ydW (i : Nat) (h : i <= 3) : (64 : Int) ^ i <= 262144 := by
 have : (64 : Int) ^ i <= 64 ^ 3 := by exact_mod_cast Nat.pow_le_pow_right (by omega : 0 < 64) h
 exact this
theorem ygT (s : ByteArray) (R : Int) (w : World) (hs : s.size <= maxLen) (hz : 2 <= s.size) (h0 : (192 : Int) <= (s[0].toNat : Int)) (h1 : (s[0].toNat : Int) < 224) (H : Hid (xjU (byt s) 2 128 1 1 ((s[0].toNat : Int) - 192) = R)) :
  Calls Tryz.prog 98 #[.string s] w fun e w' => e = .returned (.int .i64 R) /\ Below w.heap.size w w' := by
 unfold maxLen at hs
 have hpos : (0 : Int) < (s.size : Int) := by omega
 go_enter Tryz.func98,Tryz.ntmps98
 go_wp2
 go_loop [5,6] (fun t i => ∃ k : Nat,∃ v : Int,i = .int .i64 k /\ t = .int .i64 v /\ 1 <= k /\ k <= 2 /\ 0 <= v /\ v < 64 ^ k /\ Hid (xjU (byt s) 2 128 (2 - k) k v = R)) (fun _ i => 2 - (intOf i).toNat)
 case atStart => exact ⟨1,_,rfl,rfl,by omega,by omega,by omega,by omega,H⟩
 case round =>
  obtain ⟨k,v,rfl,rfl,hk1,hkm,hv0,hv1,HK⟩ := hrel
  clear H
  by_cases hlt : k < 2
  ·have hks : k < s.size := by omega
   have hb := xsP s k hks
   have hp := ydW k (by omega)
   have hv2 : v <= 262143 := by omega
   have hb8 : s[k].toNat < 256 := s[k].toNat_lt
   obtain ⟨f,hf⟩ : ∃ f,2 - k = f + 1 := ⟨2 - k - 1,by omega⟩
   by_cases hlo : (s[k].toNat : Int) < 128
   ·have HE : Hid (R = 0) := by unfold Hid; rw [<- HK.out,hf]; exact xcM (.inl (by omega))
    clear HK hb hp hf
    go_wp2
    go_ret
    exact ⟨by rw [HE.out]; rfl,Below.refl _ _⟩
   ·by_cases hhi : (191 : Int) < (s[k].toNat : Int)
    ·have HE : Hid (R = 0) := by unfold Hid; rw [<- HK.out,hf]; exact xcM (.inr (by omega))
     clear HK hb hp hf
     go_wp2
     go_ret
     exact ⟨by rw [HE.out]; rfl,Below.refl _ _⟩
    ·have HN : Hid (xjU (byt s) 2 128 (2 - (k + 1)) (k + 1) (v * 64 + (s[k].toNat : Int) - 128) = R) := by
      unfold Hid
      have := HK.out
      rw [hf,xcC (by omega) (by omega),hb] at this
      rw [show 2 - (k + 1) = f from by omega]
      exact this
     have HP : Hid (v * 64 + (s[k].toNat : Int) - 128 < 64 ^ (k + 1)) := by unfold Hid; rw [Int.pow_succ]; omega
     clear HK hb hp hf
     go_wp2
     go_round
     case rel => exact ⟨k + 1,_,by go_num,rfl,by omega,by omega,by omega,HP.out,HN⟩
     case measure => simp [intOf]; omega
  ·have hkk : k = 2 := by omega
   subst hkk
   have e := HK.out
   rw [Nat.sub_self,xjU] at e
   have hv2 : v <= 16777215 := by (have : (64 : Int) ^ 2 <= 16777216 := (by decide)); omega
   clear HK hv1
   by_cases c1 : v < 128
   ·rw [if_pos (.inl c1)] at e
    have E : Hid _ := e
    clear e
    go_wp2
    go_ret
    exact ⟨by rw [<- E.out]; rfl,(Below.refl _ _).alloc (Nat.le_refl _) _⟩
   ·by_cases c2 : (1114111 : Int) < v
    ·rw [if_pos (.inr (.inl c2))] at e
     have E : Hid _ := e
     clear e
     go_wp2
     go_ret
     exact ⟨by rw [<- E.out]; rfl,(Below.refl _ _).alloc (Nat.le_refl _) _⟩
    ·by_cases c3 : (55296 : Int) <= v
     ·by_cases c4 : v <= 57343
      ·rw [if_pos (.inr (.inr ⟨c3,c4⟩))] at e
       have E : Hid _ := e
       clear e
       go_wp2
       go_ret
       exact ⟨by rw [<- E.out]; rfl,(Below.refl _ _).alloc (Nat.le_refl _) _⟩
      ·rw [if_neg (by omega)] at e
       have E : Hid _ := e
       clear e
       go_wp2
       go_ret
       exact ⟨by rw [<- E.out]; rfl,(Below.refl _ _).alloc (Nat.le_refl _) _⟩
     ·rw [if_neg (by omega)] at e
      have E : Hid _ := e
      clear e
      go_wp2
      go_ret
      exact ⟨by rw [<- E.out]; rfl,(Below.refl _ _).alloc (Nat.le_refl _) _⟩
theorem xpS (s : ByteArray) (w : World) (hp : 0 < s.size) (hz : (s.size : Int) < 2) (h0 : (192 : Int) <= (s[0].toNat : Int)) (h1 : (s[0].toNat : Int) < 224) :
  Calls Tryz.prog 98 #[.string s] w fun e w' => e = .returned (.int .i64 0) /\ Below w.heap.size w w' := by
 have hpos : (0 : Int) < (s.size : Int) := by omega
 go_enter Tryz.func98,Tryz.ntmps98
 go_wp2
 go_ret
 exact ⟨rfl,Below.refl _ _⟩
theorem ygU (s : ByteArray) (R : Int) (w : World) (hs : s.size <= maxLen) (hz : 3 <= s.size) (h0 : (224 : Int) <= (s[0].toNat : Int)) (h1 : (s[0].toNat : Int) < 240) (H : Hid (xjU (byt s) 3 2048 2 1 ((s[0].toNat : Int) - 224) = R)) :
  Calls Tryz.prog 98 #[.string s] w fun e w' => e = .returned (.int .i64 R) /\ Below w.heap.size w w' := by
 unfold maxLen at hs
 have hpos : (0 : Int) < (s.size : Int) := by omega
 go_enter Tryz.func98,Tryz.ntmps98
 go_wp2
 go_loop [5,6] (fun t i => ∃ k : Nat,∃ v : Int,i = .int .i64 k /\ t = .int .i64 v /\ 1 <= k /\ k <= 3 /\ 0 <= v /\ v < 64 ^ k /\ Hid (xjU (byt s) 3 2048 (3 - k) k v = R)) (fun _ i => 3 - (intOf i).toNat)
 case atStart => exact ⟨1,_,rfl,rfl,by omega,by omega,by omega,by omega,H⟩
 case round =>
  obtain ⟨k,v,rfl,rfl,hk1,hkm,hv0,hv1,HK⟩ := hrel
  clear H
  by_cases hlt : k < 3
  ·have hks : k < s.size := by omega
   have hb := xsP s k hks
   have hp := ydW k (by omega)
   have hv2 : v <= 262143 := by omega
   have hb8 : s[k].toNat < 256 := s[k].toNat_lt
   obtain ⟨f,hf⟩ : ∃ f,3 - k = f + 1 := ⟨3 - k - 1,by omega⟩
   by_cases hlo : (s[k].toNat : Int) < 128
   ·have HE : Hid (R = 0) := by unfold Hid; rw [<- HK.out,hf]; exact xcM (.inl (by omega))
    clear HK hb hp hf
    go_wp2
    go_ret
    exact ⟨by rw [HE.out]; rfl,Below.refl _ _⟩
   ·by_cases hhi : (191 : Int) < (s[k].toNat : Int)
    ·have HE : Hid (R = 0) := by unfold Hid; rw [<- HK.out,hf]; exact xcM (.inr (by omega))
     clear HK hb hp hf
     go_wp2
     go_ret
     exact ⟨by rw [HE.out]; rfl,Below.refl _ _⟩
    ·have HN : Hid (xjU (byt s) 3 2048 (3 - (k + 1)) (k + 1) (v * 64 + (s[k].toNat : Int) - 128) = R) := by
      unfold Hid
      have := HK.out
      rw [hf,xcC (by omega) (by omega),hb] at this
      rw [show 3 - (k + 1) = f from by omega]
      exact this
     have HP : Hid (v * 64 + (s[k].toNat : Int) - 128 < 64 ^ (k + 1)) := by unfold Hid; rw [Int.pow_succ]; omega
     clear HK hb hp hf
     go_wp2
     go_round
     case rel => exact ⟨k + 1,_,by go_num,rfl,by omega,by omega,by omega,HP.out,HN⟩
     case measure => simp [intOf]; omega
  ·have hkk : k = 3 := by omega
   subst hkk
   have e := HK.out
   rw [Nat.sub_self,xjU] at e
   have hv2 : v <= 16777215 := by (have : (64 : Int) ^ 3 <= 16777216 := (by decide)); omega
   clear HK hv1
   by_cases c1 : v < 2048
   ·rw [if_pos (.inl c1)] at e
    have E : Hid _ := e
    clear e
    go_wp2
    go_ret
    exact ⟨by rw [<- E.out]; rfl,(Below.refl _ _).alloc (Nat.le_refl _) _⟩
   ·by_cases c2 : (1114111 : Int) < v
    ·rw [if_pos (.inr (.inl c2))] at e
     have E : Hid _ := e
     clear e
     go_wp2
     go_ret
     exact ⟨by rw [<- E.out]; rfl,(Below.refl _ _).alloc (Nat.le_refl _) _⟩
    ·by_cases c3 : (55296 : Int) <= v
     ·by_cases c4 : v <= 57343
      ·rw [if_pos (.inr (.inr ⟨c3,c4⟩))] at e
       have E : Hid _ := e
       clear e
       go_wp2
       go_ret
       exact ⟨by rw [<- E.out]; rfl,(Below.refl _ _).alloc (Nat.le_refl _) _⟩
      ·rw [if_neg (by omega)] at e
       have E : Hid _ := e
       clear e
       go_wp2
       go_ret
       exact ⟨by rw [<- E.out]; rfl,(Below.refl _ _).alloc (Nat.le_refl _) _⟩
     ·rw [if_neg (by omega)] at e
      have E : Hid _ := e
      clear e
      go_wp2
      go_ret
      exact ⟨by rw [<- E.out]; rfl,(Below.refl _ _).alloc (Nat.le_refl _) _⟩
theorem xpT (s : ByteArray) (w : World) (hp : 0 < s.size) (hz : (s.size : Int) < 3) (h0 : (224 : Int) <= (s[0].toNat : Int)) (h1 : (s[0].toNat : Int) < 240) :
  Calls Tryz.prog 98 #[.string s] w fun e w' => e = .returned (.int .i64 0) /\ Below w.heap.size w w' := by
 have hpos : (0 : Int) < (s.size : Int) := by omega
 go_enter Tryz.func98,Tryz.ntmps98
 go_wp2
 go_ret
 exact ⟨rfl,Below.refl _ _⟩
theorem ygV (s : ByteArray) (R : Int) (w : World) (hs : s.size <= maxLen) (hz : 4 <= s.size) (h0 : (240 : Int) <= (s[0].toNat : Int)) (h1 : (s[0].toNat : Int) < 248) (H : Hid (xjU (byt s) 4 65536 3 1 ((s[0].toNat : Int) - 240) = R)) :
  Calls Tryz.prog 98 #[.string s] w fun e w' => e = .returned (.int .i64 R) /\ Below w.heap.size w w' := by
 unfold maxLen at hs
 have hpos : (0 : Int) < (s.size : Int) := by omega
 go_enter Tryz.func98,Tryz.ntmps98
 go_wp2
 go_loop [5,6] (fun t i => ∃ k : Nat,∃ v : Int,i = .int .i64 k /\ t = .int .i64 v /\ 1 <= k /\ k <= 4 /\ 0 <= v /\ v < 64 ^ k /\ Hid (xjU (byt s) 4 65536 (4 - k) k v = R)) (fun _ i => 4 - (intOf i).toNat)
 case atStart => exact ⟨1,_,rfl,rfl,by omega,by omega,by omega,by omega,H⟩
 case round =>
  obtain ⟨k,v,rfl,rfl,hk1,hkm,hv0,hv1,HK⟩ := hrel
  clear H
  by_cases hlt : k < 4
  ·have hks : k < s.size := by omega
   have hb := xsP s k hks
   have hp := ydW k (by omega)
   have hv2 : v <= 262143 := by omega
   have hb8 : s[k].toNat < 256 := s[k].toNat_lt
   obtain ⟨f,hf⟩ : ∃ f,4 - k = f + 1 := ⟨4 - k - 1,by omega⟩
   by_cases hlo : (s[k].toNat : Int) < 128
   ·have HE : Hid (R = 0) := by unfold Hid; rw [<- HK.out,hf]; exact xcM (.inl (by omega))
    clear HK hb hp hf
    go_wp2
    go_ret
    exact ⟨by rw [HE.out]; rfl,Below.refl _ _⟩
   ·by_cases hhi : (191 : Int) < (s[k].toNat : Int)
    ·have HE : Hid (R = 0) := by unfold Hid; rw [<- HK.out,hf]; exact xcM (.inr (by omega))
     clear HK hb hp hf
     go_wp2
     go_ret
     exact ⟨by rw [HE.out]; rfl,Below.refl _ _⟩
    ·have HN : Hid (xjU (byt s) 4 65536 (4 - (k + 1)) (k + 1) (v * 64 + (s[k].toNat : Int) - 128) = R) := by
      unfold Hid
      have := HK.out
      rw [hf,xcC (by omega) (by omega),hb] at this
      rw [show 4 - (k + 1) = f from by omega]
      exact this
     have HP : Hid (v * 64 + (s[k].toNat : Int) - 128 < 64 ^ (k + 1)) := by unfold Hid; rw [Int.pow_succ]; omega
     clear HK hb hp hf
     go_wp2
     go_round
     case rel => exact ⟨k + 1,_,by go_num,rfl,by omega,by omega,by omega,HP.out,HN⟩
     case measure => simp [intOf]; omega
  ·have hkk : k = 4 := by omega
   subst hkk
   have e := HK.out
   rw [Nat.sub_self,xjU] at e
   have hv2 : v <= 16777215 := by (have : (64 : Int) ^ 4 <= 16777216 := (by decide)); omega
   clear HK hv1
   by_cases c1 : v < 65536
   ·rw [if_pos (.inl c1)] at e
    have E : Hid _ := e
    clear e
    go_wp2
    go_ret
    exact ⟨by rw [<- E.out]; rfl,(Below.refl _ _).alloc (Nat.le_refl _) _⟩
   ·by_cases c2 : (1114111 : Int) < v
    ·rw [if_pos (.inr (.inl c2))] at e
     have E : Hid _ := e
     clear e
     go_wp2
     go_ret
     exact ⟨by rw [<- E.out]; rfl,(Below.refl _ _).alloc (Nat.le_refl _) _⟩
    ·by_cases c3 : (55296 : Int) <= v
     ·by_cases c4 : v <= 57343
      ·exfalso; omega
      ·rw [if_neg (by omega)] at e
       have E : Hid _ := e
       clear e
       go_wp2
       go_ret
       exact ⟨by rw [<- E.out]; rfl,(Below.refl _ _).alloc (Nat.le_refl _) _⟩
     ·exfalso; omega
theorem xpU (s : ByteArray) (w : World) (hp : 0 < s.size) (hz : (s.size : Int) < 4) (h0 : (240 : Int) <= (s[0].toNat : Int)) (h1 : (s[0].toNat : Int) < 248) :
  Calls Tryz.prog 98 #[.string s] w fun e w' => e = .returned (.int .i64 0) /\ Below w.heap.size w w' := by
 have hpos : (0 : Int) < (s.size : Int) := by omega
 go_enter Tryz.func98,Tryz.ntmps98
 go_wp2
 go_ret
 exact ⟨rfl,Below.refl _ _⟩
theorem xzQ (s : ByteArray) (w : World) (hp : 0 < s.size) (h1 : (s[0].toNat : Int) < 128) :
  Calls Tryz.prog 98 #[.string s] w fun e w' => e = .returned (.int .i64 1) /\ Below w.heap.size w w' := by
 have hpos : (0 : Int) < (s.size : Int) := by omega
 go_enter Tryz.func98,Tryz.ntmps98
 go_wp2
 go_ret
 exact ⟨rfl,Below.refl _ _⟩
theorem xzP (s : ByteArray) (w : World) (hp : 0 < s.size) (h0 : (128 : Int) <= (s[0].toNat : Int)) (h1 : (s[0].toNat : Int) < 192) :
  Calls Tryz.prog 98 #[.string s] w fun e w' => e = .returned (.int .i64 0) /\ Below w.heap.size w w' := by
 have hpos : (0 : Int) < (s.size : Int) := by omega
 go_enter Tryz.func98,Tryz.ntmps98
 go_wp2
 go_ret
 exact ⟨rfl,Below.refl _ _⟩
theorem xvW (s : ByteArray) (w : World) (hp : 0 < s.size) (h0 : (248 : Int) <= (s[0].toNat : Int)) :
  Calls Tryz.prog 98 #[.string s] w fun e w' => e = .returned (.int .i64 0) /\ Below w.heap.size w w' := by
 have hpos : (0 : Int) < (s.size : Int) := by omega
 have hb8 : s[0].toNat < 256 := s[0].toNat_lt
 go_enter Tryz.func98,Tryz.ntmps98
 go_wp2
 go_ret
 exact ⟨rfl,Below.refl _ _⟩
def xsA (l : List UInt8) : Nat := if (Lib.decodeL l).1 = 65533 /\ (Lib.decodeL l).2 = 1 then 0 else (Lib.decodeL l).2
def sgN (len b0 b1 b2 b3 : Nat) : Nat := if (Lib.decodeN len b0 b1 b2 b3).1 = 65533 /\ (Lib.decodeN len b0 b1 b2 b3).2 = 1 then 0 else (Lib.decodeN len b0 b1 b2 b3).2
theorem ygS (l : List UInt8) : xsA l = sgN l.length (l.getD 0 0).toNat (l.getD 1 0).toNat (l.getD 2 0).toNat (l.getD 3 0).toNat := by
 unfold xsA sgN; rw [Lib.decodeL_N]
theorem xvR (len b0 b1 b2 b3 c k : Nat) (h : Lib.decodeN len b0 b1 b2 b3 = (c,k)) (hk : 1 < k) : sgN len b0 b1 b2 b3 = k := by
 unfold sgN; rw [h,if_neg (by omega)]
theorem xdW (len b0 b1 b2 b3 : Nat) (h : Lib.decodeN len b0 b1 b2 b3 = (65533,1)) : sgN len b0 b1 b2 b3 = 0 := by
 unfold sgN; rw [h,if_pos ⟨rfl,rfl⟩]
theorem ycP (len b0 b1 b2 b3 : Nat) (h : b0 < 128) : sgN len b0 b1 b2 b3 = 1 := by
 have e : Lib.decodeN len b0 b1 b2 b3 = (b0,1) := by unfold Lib.decodeN; rw [if_pos h]
 unfold sgN; rw [e,if_neg (by omega)]
theorem xrW (len b0 b1 b2 b3 : Nat) (h : (128 <= b0 /\ b0 < 192) \/ (248 <= b0 /\ b0 < 256)) : sgN len b0 b1 b2 b3 = 0 := by
 apply xdW
 unfold Lib.decodeN
 rw [if_neg (by omega),if_neg (by omega),if_neg (by omega),if_neg (by omega)]
theorem ykE (len b0 b1 b2 b3 : Nat) (h0 : 192 <= b0) (h1 : b0 < 224) (hb1 : b1 < 256) (hl : 2 <= len) (b : Nat -> Int) (e1 : b 1 = (b1 : Int)) :
  xjU b 2 128 1 1 ((b0 : Int) - 192) = (sgN len b0 b1 b2 b3 : Int) := by
 by_cases c1 : 128 <= b1 /\ b1 <= 191
 ·rw [xcC (by omega) (by omega),xjU,e1]
  by_cases cc : b0 % 32 * 64 + b1 % 64 ≥ 128
  ·rw [xvR len b0 b1 b2 b3 (b0 % 32 * 64 + b1 % 64) 2 (by unfold Lib.decodeN; rw [if_neg (by omega),if_pos (by omega),if_pos cc]) (by omega),if_neg (by omega)]
  ·rw [xdW len b0 b1 b2 b3 (by unfold Lib.decodeN; rw [if_neg (by omega),if_pos (by omega),if_neg cc]),if_pos (by omega)]; rfl
 ·rw [xcM (by omega),xdW len b0 b1 b2 b3 (by unfold Lib.decodeN; rw [if_neg (by omega),if_neg (by omega),if_neg (by omega),if_neg (by omega)])]; rfl
theorem xtX (len b0 b1 b2 b3 : Nat) (h0 : 192 <= b0) (h1 : b0 < 224) (hl : len < 2) : sgN len b0 b1 b2 b3 = 0 :=
 xdW len b0 b1 b2 b3 (by unfold Lib.decodeN; rw [if_neg (by omega),if_neg (by omega),if_neg (by omega),if_neg (by omega)])
theorem ykF (len b0 b1 b2 b3 : Nat) (h0 : 224 <= b0) (h1 : b0 < 240) (hb1 : b1 < 256) (hb2 : b2 < 256) (hl : 3 <= len) (b : Nat -> Int) (e1 : b 1 = (b1 : Int)) (e2 : b 2 = (b2 : Int)) :
  xjU b 3 2048 2 1 ((b0 : Int) - 224) = (sgN len b0 b1 b2 b3 : Int) := by
 have e2' : b (1 + 1) = (b2 : Int) := e2
 by_cases c1 : 128 <= b1 /\ b1 <= 191
 ·rw [xcC (by omega) (by omega)]
  by_cases c2 : 128 <= b2 /\ b2 <= 191
  ·rw [xcC (by omega) (by omega),xjU,e1,e2']
   by_cases cc : b0 % 16 * 4096 + b1 % 64 * 64 + b2 % 64 ≥ 2048 /\ (b0 % 16 * 4096 + b1 % 64 * 64 + b2 % 64 < 55296 \/ (57344 <= b0 % 16 * 4096 + b1 % 64 * 64 + b2 % 64 /\ b0 % 16 * 4096 + b1 % 64 * 64 + b2 % 64 <= 1114111))
   ·rw [xvR len b0 b1 b2 b3 (b0 % 16 * 4096 + b1 % 64 * 64 + b2 % 64) 3 (by unfold Lib.decodeN; rw [if_neg (by omega),if_neg (by omega),if_pos (by omega),if_pos cc]) (by omega),if_neg (by omega)]
   ·rw [xdW len b0 b1 b2 b3 (by unfold Lib.decodeN; rw [if_neg (by omega),if_neg (by omega),if_pos (by omega),if_neg cc]),if_pos (by omega)]; rfl
  ·rw [xcM (by omega),xdW len b0 b1 b2 b3 (by unfold Lib.decodeN; rw [if_neg (by omega),if_neg (by omega),if_neg (by omega),if_neg (by omega)])]; rfl
 ·rw [xcM (by omega),xdW len b0 b1 b2 b3 (by unfold Lib.decodeN; rw [if_neg (by omega),if_neg (by omega),if_neg (by omega),if_neg (by omega)])]; rfl
theorem xtY (len b0 b1 b2 b3 : Nat) (h0 : 224 <= b0) (h1 : b0 < 240) (hl : len < 3) : sgN len b0 b1 b2 b3 = 0 :=
 xdW len b0 b1 b2 b3 (by unfold Lib.decodeN; rw [if_neg (by omega),if_neg (by omega),if_neg (by omega),if_neg (by omega)])
theorem ykG (len b0 b1 b2 b3 : Nat) (h0 : 240 <= b0) (h1 : b0 < 248) (hb1 : b1 < 256) (hb2 : b2 < 256) (hb3 : b3 < 256) (hl : 4 <= len) (b : Nat -> Int) (e1 : b 1 = (b1 : Int)) (e2 : b 2 = (b2 : Int)) (e3 : b 3 = (b3 : Int)) :
  xjU b 4 65536 3 1 ((b0 : Int) - 240) = (sgN len b0 b1 b2 b3 : Int) := by
 have e2' : b (1 + 1) = (b2 : Int) := e2
 have e3' : b (1 + 1 + 1) = (b3 : Int) := e3
 by_cases c1 : 128 <= b1 /\ b1 <= 191
 ·rw [xcC (by omega) (by omega)]
  by_cases c2 : 128 <= b2 /\ b2 <= 191
  ·rw [xcC (by omega) (by omega)]
   by_cases c3 : 128 <= b3 /\ b3 <= 191
   ·rw [xcC (by omega) (by omega),xjU,e1,e2',e3']
    by_cases cc : b0 % 8 * 262144 + b1 % 64 * 4096 + b2 % 64 * 64 + b3 % 64 ≥ 65536 /\ (b0 % 8 * 262144 + b1 % 64 * 4096 + b2 % 64 * 64 + b3 % 64 < 55296 \/ (57344 <= b0 % 8 * 262144 + b1 % 64 * 4096 + b2 % 64 * 64 + b3 % 64 /\ b0 % 8 * 262144 + b1 % 64 * 4096 + b2 % 64 * 64 + b3 % 64 <= 1114111))
    ·rw [xvR len b0 b1 b2 b3 (b0 % 8 * 262144 + b1 % 64 * 4096 + b2 % 64 * 64 + b3 % 64) 4 (by unfold Lib.decodeN; rw [if_neg (by omega),if_neg (by omega),if_neg (by omega),if_pos (by omega),if_pos cc]) (by omega),if_neg (by omega)]
    ·rw [xdW len b0 b1 b2 b3 (by unfold Lib.decodeN; rw [if_neg (by omega),if_neg (by omega),if_neg (by omega),if_pos (by omega),if_neg cc]),if_pos (by omega)]; rfl
   ·rw [xcM (by omega),xdW len b0 b1 b2 b3 (by unfold Lib.decodeN; rw [if_neg (by omega),if_neg (by omega),if_neg (by omega),if_neg (by omega)])]; rfl
  ·rw [xcM (by omega),xdW len b0 b1 b2 b3 (by unfold Lib.decodeN; rw [if_neg (by omega),if_neg (by omega),if_neg (by omega),if_neg (by omega)])]; rfl
 ·rw [xcM (by omega),xdW len b0 b1 b2 b3 (by unfold Lib.decodeN; rw [if_neg (by omega),if_neg (by omega),if_neg (by omega),if_neg (by omega)])]; rfl
theorem xtZ (len b0 b1 b2 b3 : Nat) (h0 : 240 <= b0) (h1 : b0 < 248) (hl : len < 4) : sgN len b0 b1 b2 b3 = 0 :=
 xdW len b0 b1 b2 b3 (by unfold Lib.decodeN; rw [if_neg (by omega),if_neg (by omega),if_neg (by omega),if_neg (by omega)])
theorem xsU (s : ByteArray) (i : Nat) (h : i < s.size) : (s.data.toList.getD i 0).toNat = s[i].toNat := by
 have hl : i < s.data.toList.length := by rw [<- Lib.size_eq]; exact h
 rw [List.getD_eq_getElem?_getD,List.getElem?_eq_getElem hl,Option.getD_some]
 rfl
theorem xzO (s : ByteArray) (w : World) (hs : s.size <= maxLen) (hp : 0 < s.size) :
  Calls Tryz.prog 98 #[.string s] w fun e w' => e = .returned (.int .i64 (xsA s.data.toList : Int)) /\ Below w.heap.size w w' := by
 have b0 : s[0].toNat < 256 := s[0].toNat_lt
 have e0 := xsU s 0 hp
 have hN := ygS s.data.toList
 rw [e0,<- Lib.size_eq] at hN
 have lt : ∀ i,(s.data.toList.getD i 0).toNat < 256 := fun i => (s.data.toList.getD i 0).toNat_lt
 have eb : ∀ i,i < s.size -> byt s i = ((s.data.toList.getD i 0).toNat : Int) := fun i hi => by rw [xsP s i hi,xsU s i hi]
 by_cases c1 : s[0].toNat < 128
 ·rw [hN,ycP _ _ _ _ _ c1]; exact xzQ s w hp (by omega)
 ·by_cases c2 : s[0].toNat < 192
  ·rw [hN,xrW _ _ _ _ _ (.inl (by omega))]; exact xzP s w hp (by omega) (by omega)
  ·by_cases c3 : s[0].toNat < 224
   ·by_cases hl : 2 <= s.size
    ·rw [hN]
     exact ygT s _ w hs hl (by omega) (by omega) (ykE _ _ _ _ _ (by omega) c3 (lt 1) hl _ (eb 1 (by omega)))
    ·rw [hN,xtX _ _ _ _ _ (by omega) c3 (by omega)]; exact xpS s w hp (by omega) (by omega) (by omega)
   ·by_cases c4 : s[0].toNat < 240
    ·by_cases hl : 3 <= s.size
     ·rw [hN]
      exact ygU s _ w hs hl (by omega) (by omega) (ykF _ _ _ _ _ (by omega) c4 (lt 1) (lt 2) hl _ (eb 1 (by omega)) (eb 2 (by omega)))
     ·rw [hN,xtY _ _ _ _ _ (by omega) c4 (by omega)]; exact xpT s w hp (by omega) (by omega) (by omega)
    ·by_cases c5 : s[0].toNat < 248
     ·by_cases hl : 4 <= s.size
      ·rw [hN]
       exact ygV s _ w hs hl (by omega) (by omega) (ykG _ _ _ _ _ (by omega) c5 (lt 1) (lt 2) (lt 3) hl _ (eb 1 (by omega)) (eb 2 (by omega)) (eb 3 (by omega)))
      ·rw [hN,xtZ _ _ _ _ _ (by omega) c5 (by omega)]; exact xpU s w hp (by omega) (by omega) (by omega)
     ·rw [hN,xrW _ _ _ _ _ (.inr (by omega))]; exact xvW s w hp (by omega)
theorem xyB (l : List UInt8) (h : l ≠ []) : Lib.validD l = if xsA l = 0 then false else Lib.validD (l.drop (xsA l)) := by
 rw [Lib.validD_step l h]
 by_cases c : (Lib.decodeL l).1 = 65533 /\ (Lib.decodeL l).2 = 1
 ·have : xsA l = 0 := by unfold xsA; rw [if_pos c]
  rw [if_pos c,if_pos this]
 ·have e : xsA l = (Lib.decodeL l).2 := by unfold xsA; rw [if_neg c]
  have := Lib.decodeL_width l
  rw [if_neg c,e,if_neg (by omega)]
theorem ykH (l : List UInt8) (h : l ≠ []) : xsA l <= l.length := by
 unfold xsA
 split
 ·omega
 ·exact Lib.decodeL_le l h
theorem xoI (s : ByteArray) (b : Bool) (w : World) (hs : s.size <= maxLen) (H : Hid (Lib.validD s.data.toList = b)) :
  Calls Tryz.prog 86 #[.string s] w fun e w' => e = .returned (.bool b) /\ Below w.heap.size w w' := by
 go_enter Tryz.func86,Tryz.ntmps86
 go_wp2
 go_loopg [0] (s.size + 1) (fun gk t wr => ∃ T : ByteArray,t = .string T /\ T.size <= maxLen /\ T.size < gk /\ Hid (Lib.validD T.data.toList = b) /\ Below w.heap.size w wr)
 case atStart => exact ⟨s,rfl,hs,by omega,H,Below.refl _ _⟩
 case round =>
  obtain ⟨T,rfl,hTs,hTg,HT,hb⟩ := hrel
  clear H
  have hsz := hb.size
  by_cases hz : T.size = 0
  ·have hnil : T.data.toList = [] := List.eq_nil_of_length_eq_zero (by rw [<- Lib.size_eq]; exact hz)
   have hne : T.toList.isEmpty = true := by rw [Lib.toList_data,hnil]; rfl
   have HB : Hid (true = b) := by unfold Hid; rw [<- HT.out,hnil]; rfl
   clear HT hnil
   go_wp2
   go_ret
   exact ⟨xvL HB.out,hb⟩
  ·have hnn : T.data.toList ≠ [] := fun e => hz (by rw [Lib.size_eq,e]; rfl)
   have hne : T.toList.isEmpty = false := by rw [Lib.toList_data]; simpa using hnn
   have hv := xyB T.data.toList hnn
   have hle := ykH T.data.toList hnn
   rw [<- Lib.size_eq] at hle
   have SG : Hid (∀ w,Calls Tryz.prog 98 #[.string T] w fun e w' => e = .returned (.int .i64 (xsA T.data.toList : Int)) /\ Below w.heap.size w w') := fun w => xzO T w hTs (by omega)
   obtain ⟨R,hR⟩ : ∃ R,xsA T.data.toList = R := ⟨_,rfl⟩
   rw [hR] at hv hle SG
   rw [HT.out] at hv
   clear HT hR hnn
   by_cases h0 : R = 0
   ·have HB : Hid (false = b) := by unfold Hid; rw [hv,if_pos h0]
    subst h0
    clear hv
    go_wp2_with (go_at_call 98; refine (SG.out _).mono ?_; rintro e w1 ⟨rfl,b1⟩)
    go_ret
    exact ⟨xvL HB.out,hb.trans (b1.mono hsz)⟩
   ·have HB : Hid (Lib.validD (T.extract R T.size).data.toList = b) := by unfold Hid; rw [hv,if_neg h0,Lib.ext_list]
    have hRz : ((R : Int) == 0) = false := by rw [beq_eq_false_iff_ne]; omega
    have hlei : (R : Int) <= (T.size : Int) := by omega
    have HZ : Hid ((T.extract R T.size).size = T.size - R) := Lib.ext_size T R
    obtain ⟨g',rfl⟩ : ∃ g',gk = g' + 1 := ⟨gk - 1,by omega⟩
    clear hv
    go_wp2_with (go_at_call 98; refine (SG.out _).mono ?_; rintro e w1 ⟨rfl,b1⟩)
    go_roundg g'
    case measure => omega
    case rel => exact ⟨_,rfl,by rw [HZ.out]; omega,by rw [HZ.out]; omega,HB,hb.trans (b1.mono hsz)⟩
theorem xjA (s : ByteArray) (e : Int) (w : World) (he : (e != 0) = true) (H : Hid (∀ w,Calls Tryz.prog 66 #[.string s,.int .i64 32] w fun e' w' => e' = .returned (.tuple #[.int .u64 0,.int .i64 0,.int .i64 e]) /\ Below w.heap.size w w')) :
  Calls Tryz.prog 67 #[.string s] w fun e' w' => e' = .returned (.tuple #[.string ⟨#[]⟩,.int .i64 0,.int .i64 e]) /\ Below w.heap.size w w' := by
 go_enter Tryz.func67,Tryz.ntmps67
 go_wp2_with (go_at_call 66; refine (H.out _).mono ?_; rintro e' w1 ⟨rfl,b1⟩)
 go_ret3
 exact ⟨rfl,b1⟩
theorem xiP (s : ByteArray) (n k : Nat) (w : World) (hn : (16 : Int) < (n : Int)) (H : Hid (∀ w,Calls Tryz.prog 66 #[.string s,.int .i64 32] w fun e' w' => e' = .returned (.tuple #[.int .u64 (n : Int),.int .i64 (k : Int),.int .i64 0]) /\ Below w.heap.size w w')) :
  Calls Tryz.prog 67 #[.string s] w fun e' w' => e' = .returned (.tuple #[.string ⟨#[]⟩,.int .i64 0,.int .i64 2]) /\ Below w.heap.size w w' := by
 go_enter Tryz.func67,Tryz.ntmps67
 go_wp2_with (go_at_call 66; refine (H.out _).mono ?_; rintro e' w1 ⟨rfl,b1⟩)
 go_ret3
 exact ⟨rfl,b1⟩
theorem xiQ (s : ByteArray) (n k : Nat) (w : World) (_hs : s.size <= maxLen) (hn : n <= 16) (_hk : k <= 10) (hks : k <= s.size) (hlt : (s.size : Int) < (k : Int) + (n : Int)) (H : Hid (∀ w,Calls Tryz.prog 66 #[.string s,.int .i64 32] w fun e' w' => e' = .returned (.tuple #[.int .u64 (n : Int),.int .i64 (k : Int),.int .i64 0]) /\ Below w.heap.size w w')) :
  Calls Tryz.prog 67 #[.string s] w fun e' w' => e' = .returned (.tuple #[.string ⟨#[]⟩,.int .i64 0,.int .i64 3]) /\ Below w.heap.size w w' := by
 unfold maxLen at _hs
 go_enter Tryz.func67,Tryz.ntmps67
 go_wp2_with (go_at_call 66; refine (H.out _).mono ?_; rintro e' w1 ⟨rfl,b1⟩)
 go_ret3
 exact ⟨rfl,b1⟩
theorem xkZ (s T : ByteArray) (n k : Nat) (w : World) (hs : s.size <= maxLen) (hn : n <= 16) (hk : k <= 10) (hge : k + n <= s.size) (hT : s.extract k (k + n) = T) (hTz : T.size <= 16) (hv : Hid (Lib.validD T.data.toList = false))
  (H : Hid (∀ w,Calls Tryz.prog 66 #[.string s,.int .i64 32] w fun e' w' => e' = .returned (.tuple #[.int .u64 (n : Int),.int .i64 (k : Int),.int .i64 0]) /\ Below w.heap.size w w')) :
  Calls Tryz.prog 67 #[.string s] w fun e' w' => e' = .returned (.tuple #[.string ⟨#[]⟩,.int .i64 0,.int .i64 4]) /\ Below w.heap.size w w' := by
 unfold maxLen at hs
 have IT : Hid (∀ w,Calls Tryz.prog 86 #[.string T] w fun e w' => e = .returned (.bool false) /\ Below w.heap.size w w') := fun w => xoI T false w (by unfold maxLen; omega) hv
 go_enter Tryz.func67,Tryz.ntmps67
 go_wp2_with (first | (go_at_call 66; refine (H.out _).mono ?_; rintro e' w1 ⟨rfl,b1⟩) | (go_at_call 86; refine (IT.out _).mono ?_; rintro e w2 ⟨rfl,b2⟩))
 go_ret3
 exact ⟨rfl,b1.trans (b2.mono b1.size)⟩
theorem xlR (s T : ByteArray) (n k : Nat) (w : World) (hs : s.size <= maxLen) (hn : n <= 16) (hk : k <= 10) (hge : k + n <= s.size) (hT : s.extract k (k + n) = T) (hTz : T.size <= 16) (hv : Hid (Lib.validD T.data.toList = true))
  (H : Hid (∀ w,Calls Tryz.prog 66 #[.string s,.int .i64 32] w fun e' w' => e' = .returned (.tuple #[.int .u64 (n : Int),.int .i64 (k : Int),.int .i64 0]) /\ Below w.heap.size w w')) :
  Calls Tryz.prog 67 #[.string s] w fun e' w' => e' = .returned (.tuple #[.string T,.int .i64 ((k : Int) + (n : Int)),.int .i64 0]) /\ Below w.heap.size w w' := by
 unfold maxLen at hs
 have IT : Hid (∀ w,Calls Tryz.prog 86 #[.string T] w fun e w' => e = .returned (.bool true) /\ Below w.heap.size w w') := fun w => xoI T true w (by unfold maxLen; omega) hv
 go_enter Tryz.func67,Tryz.ntmps67
 go_wp2_with (first | (go_at_call 66; refine (H.out _).mono ?_; rintro e' w1 ⟨rfl,b1⟩) | (go_at_call 86; refine (IT.out _).mono ?_; rintro e w2 ⟨rfl,b2⟩))
 go_ret3
 exact ⟨rfl,b1.trans (b2.mono b1.size)⟩
end Go.Proofs.YtmmjgdaamkdncaaGreatDoor
