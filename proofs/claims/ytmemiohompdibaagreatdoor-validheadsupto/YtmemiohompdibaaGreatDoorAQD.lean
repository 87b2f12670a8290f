/-
 What the document's own sign does: how many bytes the sign has with which a text begins.
 What the document's own isText does: it says of a text what utf8.ValidString says.
-/
import Derived.Test.YtmemiohompdibaaGreatDoorAQB
import Derived.Lib.ValidLaws
import Derived.Lib.TrimUEq
import Derived.Lib.MapLaws
import Derived.Deep.LoopGhost
import Derived.Lib.ValidAsc
set_option maxHeartbeats 1000000
set_option maxRecDepth 100000
namespace Go.Proofs.YtmemiohompdibaaGreatDoor
set_option linter.unusedVariables false
open Go.RowKit
def sgGo (b : Nat → Int) (m : Nat) (least : Int) : Nat → Nat → Int → Int
 | 0, _, v => if v < least ∨ 1114111 < v ∨ (55296 ≤ v ∧ v ≤ 57343) then 0 else m
 | f + 1, i, v => if b i < 128 ∨ 191 < b i then 0 else sgGo b m least f (i + 1) (v * 64 + b i - 128)
theorem sgGo_bad {b : Nat → Int} {m f i : Nat} {least v : Int} (h : b i < 128 ∨ 191 < b i) : sgGo b m least (f + 1) i v = 0 := by rw [sgGo, if_pos h]
theorem sgGo_next {b : Nat → Int} {m f i : Nat} {least v : Int} (h1 : ¬ b i < 128) (h2 : ¬ 191 < b i) : sgGo b m least (f + 1) i v = sgGo b m least f (i + 1) (v * 64 + b i - 128) := by
 rw [sgGo, if_neg (by omega)]
def byt (s : ByteArray) (i : Nat) : Int := (nums s).getD i 0
theorem byt_at (s : ByteArray) (i : Nat) (h : i < s.size) : byt s i = (s[i].toNat : Int) := by
 unfold byt
 have hl : i < (nums s).length := by rw [nums_length]; exact h
 rw [List.getD_eq_getElem?_getD, List.getElem?_eq_getElem hl, Option.getD_some]
 simp only [nums, List.getElem_map]
 rfl
theorem pow64 (i : Nat) (h : i ≤ 3) : (64 : Int) ^ i ≤ 262144 := by
 have : (64 : Int) ^ i ≤ 64 ^ 3 := by exact_mod_cast Nat.pow_le_pow_right (by omega : 0 < 64) h
 exact this
theorem sign_2 (s : ByteArray) (R : Int) (w : World) (hs : s.size ≤ maxLen) (hz : 2 ≤ s.size) (h0 : (192 : Int) ≤ (s[0].toNat : Int)) (h1 : (s[0].toNat : Int) < 224) (H : Hid (sgGo (byt s) 2 128 1 1 ((s[0].toNat : Int) - 192) = R)) :
  Calls Tryz.prog 139 #[.string s] w fun e w' => e = .returned (.int .i64 R) ∧ Below w.heap.size w w' := by
 unfold maxLen at hs
 have hpos : (0 : Int) < (s.size : Int) := by omega
 go_enter Tryz.func139, Tryz.ntmps139
 go_wp2
 go_loop [5, 6] (fun t i => ∃ k : Nat, ∃ v : Int, i = .int .i64 k ∧ t = .int .i64 v ∧ 1 ≤ k ∧ k ≤ 2 ∧ 0 ≤ v ∧ v < 64 ^ k ∧ Hid (sgGo (byt s) 2 128 (2 - k) k v = R)) (fun _ i => 2 - (intOf i).toNat)
 case atStart => exact ⟨1, _, rfl, rfl, by omega, by omega, by omega, by omega, H⟩
 case round =>
  obtain ⟨k, v, rfl, rfl, hk1, hkm, hv0, hv1, HK⟩ := hrel
  clear H
  by_cases hlt : k < 2
  ·have hks : k < s.size := by omega
   have hb := byt_at s k hks
   have hp := pow64 k (by omega)
   have hv2 : v ≤ 262143 := by omega
   have hb8 : s[k].toNat < 256 := s[k].toNat_lt
   obtain ⟨f, hf⟩ : ∃ f, 2 - k = f + 1 := ⟨2 - k - 1, by omega⟩
   by_cases hlo : (s[k].toNat : Int) < 128
   ·have HE : Hid (R = 0) := by unfold Hid; rw [← HK.out, hf]; exact sgGo_bad (.inl (by omega))
    clear HK hb hp hf
    go_wp2
    go_ret
    exact ⟨by rw [HE.out]; rfl, Below.refl _ _⟩
   ·by_cases hhi : (191 : Int) < (s[k].toNat : Int)
    ·have HE : Hid (R = 0) := by unfold Hid; rw [← HK.out, hf]; exact sgGo_bad (.inr (by omega))
     clear HK hb hp hf
     go_wp2
     go_ret
     exact ⟨by rw [HE.out]; rfl, Below.refl _ _⟩
    ·have HN : Hid (sgGo (byt s) 2 128 (2 - (k + 1)) (k + 1) (v * 64 + (s[k].toNat : Int) - 128) = R) := by
      unfold Hid
      have := HK.out
      rw [hf, sgGo_next (by omega) (by omega), hb] at this
      rw [show 2 - (k + 1) = f from by omega]
      exact this
     have HP : Hid (v * 64 + (s[k].toNat : Int) - 128 < 64 ^ (k + 1)) := by unfold Hid; rw [Int.pow_succ]; omega
     clear HK hb hp hf
     go_wp2
     go_round
     case rel => exact ⟨k + 1, _, by go_num, rfl, by omega, by omega, by omega, HP.out, HN⟩
     case measure => simp [intOf]; omega
  ·have hkk : k = 2 := by omega
   subst hkk
   have e := HK.out
   rw [Nat.sub_self, sgGo] at e
   have hv2 : v ≤ 16777215 := by have : (64 : Int) ^ 2 ≤ 16777216 := by decide
                                 omega
   clear HK hv1
   by_cases c1 : v < 128
   ·rw [if_pos (.inl c1)] at e
    have E : Hid _ := e
    clear e
    go_wp2
    go_ret
    exact ⟨by rw [← E.out]; rfl, (Below.refl _ _).alloc (Nat.le_refl _) _⟩
   ·by_cases c2 : (1114111 : Int) < v
    ·rw [if_pos (.inr (.inl c2))] at e
     have E : Hid _ := e
     clear e
     go_wp2
     go_ret
     exact ⟨by rw [← E.out]; rfl, (Below.refl _ _).alloc (Nat.le_refl _) _⟩
    ·by_cases c3 : (55296 : Int) ≤ v
     ·by_cases c4 : v ≤ 57343
      ·rw [if_pos (.inr (.inr ⟨c3, c4⟩))] at e
       have E : Hid _ := e
       clear e
       go_wp2
       go_ret
       exact ⟨by rw [← E.out]; rfl, (Below.refl _ _).alloc (Nat.le_refl _) _⟩
      ·rw [if_neg (by omega)] at e
       have E : Hid _ := e
       clear e
       go_wp2
       go_ret
       exact ⟨by rw [← E.out]; rfl, (Below.refl _ _).alloc (Nat.le_refl _) _⟩
     ·rw [if_neg (by omega)] at e
      have E : Hid _ := e
      clear e
      go_wp2
      go_ret
      exact ⟨by rw [← E.out]; rfl, (Below.refl _ _).alloc (Nat.le_refl _) _⟩
theorem sign_2short (s : ByteArray) (w : World) (hp : 0 < s.size) (hz : (s.size : Int) < 2) (h0 : (192 : Int) ≤ (s[0].toNat : Int)) (h1 : (s[0].toNat : Int) < 224) :
  Calls Tryz.prog 139 #[.string s] w fun e w' => e = .returned (.int .i64 0) ∧ Below w.heap.size w w' := by
 have hpos : (0 : Int) < (s.size : Int) := by omega
 go_enter Tryz.func139, Tryz.ntmps139
 go_wp2
 go_ret
 exact ⟨rfl, Below.refl _ _⟩
theorem sign_3 (s : ByteArray) (R : Int) (w : World) (hs : s.size ≤ maxLen) (hz : 3 ≤ s.size) (h0 : (224 : Int) ≤ (s[0].toNat : Int)) (h1 : (s[0].toNat : Int) < 240) (H : Hid (sgGo (byt s) 3 2048 2 1 ((s[0].toNat : Int) - 224) = R)) :
  Calls Tryz.prog 139 #[.string s] w fun e w' => e = .returned (.int .i64 R) ∧ Below w.heap.size w w' := by
 unfold maxLen at hs
 have hpos : (0 : Int) < (s.size : Int) := by omega
 go_enter Tryz.func139, Tryz.ntmps139
 go_wp2
 go_loop [5, 6] (fun t i => ∃ k : Nat, ∃ v : Int, i = .int .i64 k ∧ t = .int .i64 v ∧ 1 ≤ k ∧ k ≤ 3 ∧ 0 ≤ v ∧ v < 64 ^ k ∧ Hid (sgGo (byt s) 3 2048 (3 - k) k v = R)) (fun _ i => 3 - (intOf i).toNat)
 case atStart => exact ⟨1, _, rfl, rfl, by omega, by omega, by omega, by omega, H⟩
 case round =>
  obtain ⟨k, v, rfl, rfl, hk1, hkm, hv0, hv1, HK⟩ := hrel
  clear H
  by_cases hlt : k < 3
  ·have hks : k < s.size := by omega
   have hb := byt_at s k hks
   have hp := pow64 k (by omega)
   have hv2 : v ≤ 262143 := by omega
   have hb8 : s[k].toNat < 256 := s[k].toNat_lt
   obtain ⟨f, hf⟩ : ∃ f, 3 - k = f + 1 := ⟨3 - k - 1, by omega⟩
   by_cases hlo : (s[k].toNat : Int) < 128
   ·have HE : Hid (R = 0) := by unfold Hid; rw [← HK.out, hf]; exact sgGo_bad (.inl (by omega))
    clear HK hb hp hf
    go_wp2
    go_ret
    exact ⟨by rw [HE.out]; rfl, Below.refl _ _⟩
   ·by_cases hhi : (191 : Int) < (s[k].toNat : Int)
    ·have HE : Hid (R = 0) := by unfold Hid; rw [← HK.out, hf]; exact sgGo_bad (.inr (by omega))
     clear HK hb hp hf
     go_wp2
     go_ret
     exact ⟨by rw [HE.out]; rfl, Below.refl _ _⟩
    ·have HN : Hid (sgGo (byt s) 3 2048 (3 - (k + 1)) (k + 1) (v * 64 + (s[k].toNat : Int) - 128) = R) := by
      unfold Hid
      have := HK.out
      rw [hf, sgGo_next (by omega) (by omega), hb] at this
      rw [show 3 - (k + 1) = f from by omega]
      exact this
     have HP : Hid (v * 64 + (s[k].toNat : Int) - 128 < 64 ^ (k + 1)) := by unfold Hid; rw [Int.pow_succ]; omega
     clear HK hb hp hf
     go_wp2
     go_round
     case rel => exact ⟨k + 1, _, by go_num, rfl, by omega, by omega, by omega, HP.out, HN⟩
     case measure => simp [intOf]; omega
  ·have hkk : k = 3 := by omega
   subst hkk
   have e := HK.out
   rw [Nat.sub_self, sgGo] at e
   have hv2 : v ≤ 16777215 := by have : (64 : Int) ^ 3 ≤ 16777216 := by decide
                                 omega
   clear HK hv1
   by_cases c1 : v < 2048
   ·rw [if_pos (.inl c1)] at e
    have E : Hid _ := e
    clear e
    go_wp2
    go_ret
    exact ⟨by rw [← E.out]; rfl, (Below.refl _ _).alloc (Nat.le_refl _) _⟩
   ·by_cases c2 : (1114111 : Int) < v
    ·rw [if_pos (.inr (.inl c2))] at e
     have E : Hid _ := e
     clear e
     go_wp2
     go_ret
     exact ⟨by rw [← E.out]; rfl, (Below.refl _ _).alloc (Nat.le_refl _) _⟩
    ·by_cases c3 : (55296 : Int) ≤ v
     ·by_cases c4 : v ≤ 57343
      ·rw [if_pos (.inr (.inr ⟨c3, c4⟩))] at e
       have E : Hid _ := e
       clear e
       go_wp2
       go_ret
       exact ⟨by rw [← E.out]; rfl, (Below.refl _ _).alloc (Nat.le_refl _) _⟩
      ·rw [if_neg (by omega)] at e
       have E : Hid _ := e
       clear e
       go_wp2
       go_ret
       exact ⟨by rw [← E.out]; rfl, (Below.refl _ _).alloc (Nat.le_refl _) _⟩
     ·rw [if_neg (by omega)] at e
      have E : Hid _ := e
      clear e
      go_wp2
      go_ret
      exact ⟨by rw [← E.out]; rfl, (Below.refl _ _).alloc (Nat.le_refl _) _⟩
theorem sign_3short (s : ByteArray) (w : World) (hp : 0 < s.size) (hz : (s.size : Int) < 3) (h0 : (224 : Int) ≤ (s[0].toNat : Int)) (h1 : (s[0].toNat : Int) < 240) :
  Calls Tryz.prog 139 #[.string s] w fun e w' => e = .returned (.int .i64 0) ∧ Below w.heap.size w w' := by
 have hpos : (0 : Int) < (s.size : Int) := by omega
 go_enter Tryz.func139, Tryz.ntmps139
 go_wp2
 go_ret
 exact ⟨rfl, Below.refl _ _⟩
theorem sign_4 (s : ByteArray) (R : Int) (w : World) (hs : s.size ≤ maxLen) (hz : 4 ≤ s.size) (h0 : (240 : Int) ≤ (s[0].toNat : Int)) (h1 : (s[0].toNat : Int) < 248) (H : Hid (sgGo (byt s) 4 65536 3 1 ((s[0].toNat : Int) - 240) = R)) :
  Calls Tryz.prog 139 #[.string s] w fun e w' => e = .returned (.int .i64 R) ∧ Below w.heap.size w w' := by
 unfold maxLen at hs
 have hpos : (0 : Int) < (s.size : Int) := by omega
 go_enter Tryz.func139, Tryz.ntmps139
 go_wp2
 go_loop [5, 6] (fun t i => ∃ k : Nat, ∃ v : Int, i = .int .i64 k ∧ t = .int .i64 v ∧ 1 ≤ k ∧ k ≤ 4 ∧ 0 ≤ v ∧ v < 64 ^ k ∧ Hid (sgGo (byt s) 4 65536 (4 - k) k v = R)) (fun _ i => 4 - (intOf i).toNat)
 case atStart => exact ⟨1, _, rfl, rfl, by omega, by omega, by omega, by omega, H⟩
 case round =>
  obtain ⟨k, v, rfl, rfl, hk1, hkm, hv0, hv1, HK⟩ := hrel
  clear H
  by_cases hlt : k < 4
  ·have hks : k < s.size := by omega
   have hb := byt_at s k hks
   have hp := pow64 k (by omega)
   have hv2 : v ≤ 262143 := by omega
   have hb8 : s[k].toNat < 256 := s[k].toNat_lt
   obtain ⟨f, hf⟩ : ∃ f, 4 - k = f + 1 := ⟨4 - k - 1, by omega⟩
   by_cases hlo : (s[k].toNat : Int) < 128
   ·have HE : Hid (R = 0) := by unfold Hid; rw [← HK.out, hf]; exact sgGo_bad (.inl (by omega))
    clear HK hb hp hf
    go_wp2
    go_ret
    exact ⟨by rw [HE.out]; rfl, Below.refl _ _⟩
   ·by_cases hhi : (191 : Int) < (s[k].toNat : Int)
    ·have HE : Hid (R = 0) := by unfold Hid; rw [← HK.out, hf]; exact sgGo_bad (.inr (by omega))
     clear HK hb hp hf
     go_wp2
     go_ret
     exact ⟨by rw [HE.out]; rfl, Below.refl _ _⟩
    ·have HN : Hid (sgGo (byt s) 4 65536 (4 - (k + 1)) (k + 1) (v * 64 + (s[k].toNat : Int) - 128) = R) := by
      unfold Hid
      have := HK.out
      rw [hf, sgGo_next (by omega) (by omega), hb] at this
      rw [show 4 - (k + 1) = f from by omega]
      exact this
     have HP : Hid (v * 64 + (s[k].toNat : Int) - 128 < 64 ^ (k + 1)) := by unfold Hid; rw [Int.pow_succ]; omega
     clear HK hb hp hf
     go_wp2
     go_round
     case rel => exact ⟨k + 1, _, by go_num, rfl, by omega, by omega, by omega, HP.out, HN⟩
     case measure => simp [intOf]; omega
  ·have hkk : k = 4 := by omega
   subst hkk
   have e := HK.out
   rw [Nat.sub_self, sgGo] at e
   have hv2 : v ≤ 16777215 := by have : (64 : Int) ^ 4 ≤ 16777216 := by decide
                                 omega
   clear HK hv1
   by_cases c1 : v < 65536
   ·rw [if_pos (.inl c1)] at e
    have E : Hid _ := e
    clear e
    go_wp2
    go_ret
    exact ⟨by rw [← E.out]; rfl, (Below.refl _ _).alloc (Nat.le_refl _) _⟩
   ·by_cases c2 : (1114111 : Int) < v
    ·rw [if_pos (.inr (.inl c2))] at e
     have E : Hid _ := e
     clear e
     go_wp2
     go_ret
     exact ⟨by rw [← E.out]; rfl, (Below.refl _ _).alloc (Nat.le_refl _) _⟩
    ·by_cases c3 : (55296 : Int) ≤ v
     ·by_cases c4 : v ≤ 57343
      ·exfalso; omega
      ·rw [if_neg (by omega)] at e
       have E : Hid _ := e
       clear e
       go_wp2
       go_ret
       exact ⟨by rw [← E.out]; rfl, (Below.refl _ _).alloc (Nat.le_refl _) _⟩
     ·exfalso; omega
theorem sign_4short (s : ByteArray) (w : World) (hp : 0 < s.size) (hz : (s.size : Int) < 4) (h0 : (240 : Int) ≤ (s[0].toNat : Int)) (h1 : (s[0].toNat : Int) < 248) :
  Calls Tryz.prog 139 #[.string s] w fun e w' => e = .returned (.int .i64 0) ∧ Below w.heap.size w w' := by
 have hpos : (0 : Int) < (s.size : Int) := by omega
 go_enter Tryz.func139, Tryz.ntmps139
 go_wp2
 go_ret
 exact ⟨rfl, Below.refl _ _⟩
theorem sign_one (s : ByteArray) (w : World) (hp : 0 < s.size) (h1 : (s[0].toNat : Int) < 128) :
  Calls Tryz.prog 139 #[.string s] w fun e w' => e = .returned (.int .i64 1) ∧ Below w.heap.size w w' := by
 have hpos : (0 : Int) < (s.size : Int) := by omega
 go_enter Tryz.func139, Tryz.ntmps139
 go_wp2
 go_ret
 exact ⟨rfl, Below.refl _ _⟩
theorem sign_low (s : ByteArray) (w : World) (hp : 0 < s.size) (h0 : (128 : Int) ≤ (s[0].toNat : Int)) (h1 : (s[0].toNat : Int) < 192) :
  Calls Tryz.prog 139 #[.string s] w fun e w' => e = .returned (.int .i64 0) ∧ Below w.heap.size w w' := by
 have hpos : (0 : Int) < (s.size : Int) := by omega
 go_enter Tryz.func139, Tryz.ntmps139
 go_wp2
 go_ret
 exact ⟨rfl, Below.refl _ _⟩
theorem sign_high (s : ByteArray) (w : World) (hp : 0 < s.size) (h0 : (248 : Int) ≤ (s[0].toNat : Int)) :
  Calls Tryz.prog 139 #[.string s] w fun e w' => e = .returned (.int .i64 0) ∧ Below w.heap.size w w' := by
 have hpos : (0 : Int) < (s.size : Int) := by omega
 have hb8 : s[0].toNat < 256 := s[0].toNat_lt
 go_enter Tryz.func139, Tryz.ntmps139
 go_wp2
 go_ret
 exact ⟨rfl, Below.refl _ _⟩
end Go.Proofs.YtmemiohompdibaaGreatDoor
namespace Go.Proofs.YtmemiohompdibaaGreatDoor
set_option linter.unusedVariables false
open Go.RowKit
def sgOf (l : List UInt8) : Nat := if (Lib.decodeL l).1 = 65533 ∧ (Lib.decodeL l).2 = 1 then 0 else (Lib.decodeL l).2
def sgN (len b0 b1 b2 b3 : Nat) : Nat := if (Lib.decodeN len b0 b1 b2 b3).1 = 65533 ∧ (Lib.decodeN len b0 b1 b2 b3).2 = 1 then 0 else (Lib.decodeN len b0 b1 b2 b3).2
theorem sgOf_N (l : List UInt8) : sgOf l = sgN l.length (l.getD 0 0).toNat (l.getD 1 0).toNat (l.getD 2 0).toNat (l.getD 3 0).toNat := by
 unfold sgOf sgN; rw [Lib.decodeL_N]
theorem sgN_of (len b0 b1 b2 b3 c k : Nat) (h : Lib.decodeN len b0 b1 b2 b3 = (c, k)) (hk : 1 < k) : sgN len b0 b1 b2 b3 = k := by
 unfold sgN; rw [h, if_neg (by omega)]
theorem sgN_err (len b0 b1 b2 b3 : Nat) (h : Lib.decodeN len b0 b1 b2 b3 = (65533, 1)) : sgN len b0 b1 b2 b3 = 0 := by
 unfold sgN; rw [h, if_pos ⟨rfl, rfl⟩]
theorem sgN_one (len b0 b1 b2 b3 : Nat) (h : b0 < 128) : sgN len b0 b1 b2 b3 = 1 := by
 have e : Lib.decodeN len b0 b1 b2 b3 = (b0, 1) := by unfold Lib.decodeN; rw [if_pos h]
 unfold sgN; rw [e, if_neg (by omega)]
theorem sgN_none (len b0 b1 b2 b3 : Nat) (h : (128 ≤ b0 ∧ b0 < 192) ∨ (248 ≤ b0 ∧ b0 < 256)) : sgN len b0 b1 b2 b3 = 0 := by
 apply sgN_err
 unfold Lib.decodeN
 rw [if_neg (by omega), if_neg (by omega), if_neg (by omega), if_neg (by omega)]
theorem sgN_2 (len b0 b1 b2 b3 : Nat) (h0 : 192 ≤ b0) (h1 : b0 < 224) (hb1 : b1 < 256) (hl : 2 ≤ len) (b : Nat → Int) (e1 : b 1 = (b1 : Int)) :
  sgGo b 2 128 1 1 ((b0 : Int) - 192) = (sgN len b0 b1 b2 b3 : Int) := by
 by_cases c1 : 128 ≤ b1 ∧ b1 ≤ 191
 ·rw [sgGo_next (by omega) (by omega), sgGo, e1]
  by_cases cc : b0 % 32 * 64 + b1 % 64 ≥ 128
  ·rw [sgN_of len b0 b1 b2 b3 (b0 % 32 * 64 + b1 % 64) 2 (by unfold Lib.decodeN; rw [if_neg (by omega), if_pos (by omega), if_pos cc]) (by omega), if_neg (by omega)]
  ·rw [sgN_err len b0 b1 b2 b3 (by unfold Lib.decodeN; rw [if_neg (by omega), if_pos (by omega), if_neg cc]), if_pos (by omega)]; rfl
 ·rw [sgGo_bad (by omega), sgN_err len b0 b1 b2 b3 (by unfold Lib.decodeN; rw [if_neg (by omega), if_neg (by omega), if_neg (by omega), if_neg (by omega)])]; rfl
theorem sgN_2short (len b0 b1 b2 b3 : Nat) (h0 : 192 ≤ b0) (h1 : b0 < 224) (hl : len < 2) : sgN len b0 b1 b2 b3 = 0 :=
 sgN_err len b0 b1 b2 b3 (by unfold Lib.decodeN; rw [if_neg (by omega), if_neg (by omega), if_neg (by omega), if_neg (by omega)])
theorem sgN_3 (len b0 b1 b2 b3 : Nat) (h0 : 224 ≤ b0) (h1 : b0 < 240) (hb1 : b1 < 256) (hb2 : b2 < 256) (hl : 3 ≤ len) (b : Nat → Int) (e1 : b 1 = (b1 : Int)) (e2 : b 2 = (b2 : Int)) :
  sgGo b 3 2048 2 1 ((b0 : Int) - 224) = (sgN len b0 b1 b2 b3 : Int) := by
 have e2' : b (1 + 1) = (b2 : Int) := e2
 by_cases c1 : 128 ≤ b1 ∧ b1 ≤ 191
 ·rw [sgGo_next (by omega) (by omega)]
  by_cases c2 : 128 ≤ b2 ∧ b2 ≤ 191
  ·rw [sgGo_next (by omega) (by omega), sgGo, e1, e2']
   by_cases cc : b0 % 16 * 4096 + b1 % 64 * 64 + b2 % 64 ≥ 2048 ∧ (b0 % 16 * 4096 + b1 % 64 * 64 + b2 % 64 < 55296 ∨ (57344 ≤ b0 % 16 * 4096 + b1 % 64 * 64 + b2 % 64 ∧ b0 % 16 * 4096 + b1 % 64 * 64 + b2 % 64 ≤ 1114111))
   ·rw [sgN_of len b0 b1 b2 b3 (b0 % 16 * 4096 + b1 % 64 * 64 + b2 % 64) 3 (by unfold Lib.decodeN; rw [if_neg (by omega), if_neg (by omega), if_pos (by omega), if_pos cc]) (by omega), if_neg (by omega)]
   ·rw [sgN_err len b0 b1 b2 b3 (by unfold Lib.decodeN; rw [if_neg (by omega), if_neg (by omega), if_pos (by omega), if_neg cc]), if_pos (by omega)]; rfl
  ·rw [sgGo_bad (by omega), sgN_err len b0 b1 b2 b3 (by unfold Lib.decodeN; rw [if_neg (by omega), if_neg (by omega), if_neg (by omega), if_neg (by omega)])]; rfl
 ·rw [sgGo_bad (by omega), sgN_err len b0 b1 b2 b3 (by unfold Lib.decodeN; rw [if_neg (by omega), if_neg (by omega), if_neg (by omega), if_neg (by omega)])]; rfl
theorem sgN_3short (len b0 b1 b2 b3 : Nat) (h0 : 224 ≤ b0) (h1 : b0 < 240) (hl : len < 3) : sgN len b0 b1 b2 b3 = 0 :=
 sgN_err len b0 b1 b2 b3 (by unfold Lib.decodeN; rw [if_neg (by omega), if_neg (by omega), if_neg (by omega), if_neg (by omega)])
theorem sgN_4 (len b0 b1 b2 b3 : Nat) (h0 : 240 ≤ b0) (h1 : b0 < 248) (hb1 : b1 < 256) (hb2 : b2 < 256) (hb3 : b3 < 256) (hl : 4 ≤ len) (b : Nat → Int) (e1 : b 1 = (b1 : Int)) (e2 : b 2 = (b2 : Int)) (e3 : b 3 = (b3 : Int)) :
  sgGo b 4 65536 3 1 ((b0 : Int) - 240) = (sgN len b0 b1 b2 b3 : Int) := by
 have e2' : b (1 + 1) = (b2 : Int) := e2
 have e3' : b (1 + 1 + 1) = (b3 : Int) := e3
 by_cases c1 : 128 ≤ b1 ∧ b1 ≤ 191
 ·rw [sgGo_next (by omega) (by omega)]
  by_cases c2 : 128 ≤ b2 ∧ b2 ≤ 191
  ·rw [sgGo_next (by omega) (by omega)]
   by_cases c3 : 128 ≤ b3 ∧ b3 ≤ 191
   ·rw [sgGo_next (by omega) (by omega), sgGo, e1, e2', e3']
    by_cases cc : b0 % 8 * 262144 + b1 % 64 * 4096 + b2 % 64 * 64 + b3 % 64 ≥ 65536 ∧ (b0 % 8 * 262144 + b1 % 64 * 4096 + b2 % 64 * 64 + b3 % 64 < 55296 ∨ (57344 ≤ b0 % 8 * 262144 + b1 % 64 * 4096 + b2 % 64 * 64 + b3 % 64 ∧ b0 % 8 * 262144 + b1 % 64 * 4096 + b2 % 64 * 64 + b3 % 64 ≤ 1114111))
    ·rw [sgN_of len b0 b1 b2 b3 (b0 % 8 * 262144 + b1 % 64 * 4096 + b2 % 64 * 64 + b3 % 64) 4 (by unfold Lib.decodeN; rw [if_neg (by omega), if_neg (by omega), if_neg (by omega), if_pos (by omega), if_pos cc]) (by omega), if_neg (by omega)]
    ·rw [sgN_err len b0 b1 b2 b3 (by unfold Lib.decodeN; rw [if_neg (by omega), if_neg (by omega), if_neg (by omega), if_pos (by omega), if_neg cc]), if_pos (by omega)]; rfl
   ·rw [sgGo_bad (by omega), sgN_err len b0 b1 b2 b3 (by unfold Lib.decodeN; rw [if_neg (by omega), if_neg (by omega), if_neg (by omega), if_neg (by omega)])]; rfl
  ·rw [sgGo_bad (by omega), sgN_err len b0 b1 b2 b3 (by unfold Lib.decodeN; rw [if_neg (by omega), if_neg (by omega), if_neg (by omega), if_neg (by omega)])]; rfl
 ·rw [sgGo_bad (by omega), sgN_err len b0 b1 b2 b3 (by unfold Lib.decodeN; rw [if_neg (by omega), if_neg (by omega), if_neg (by omega), if_neg (by omega)])]; rfl
theorem sgN_4short (len b0 b1 b2 b3 : Nat) (h0 : 240 ≤ b0) (h1 : b0 < 248) (hl : len < 4) : sgN len b0 b1 b2 b3 = 0 :=
 sgN_err len b0 b1 b2 b3 (by unfold Lib.decodeN; rw [if_neg (by omega), if_neg (by omega), if_neg (by omega), if_neg (by omega)])
theorem get_byte (s : ByteArray) (i : Nat) (h : i < s.size) : (s.data.toList.getD i 0).toNat = s[i].toNat := by
 have hl : i < s.data.toList.length := by rw [← Lib.size_eq]; exact h
 rw [List.getD_eq_getElem?_getD, List.getElem?_eq_getElem hl, Option.getD_some]
 rfl
theorem sign_any (s : ByteArray) (w : World) (hs : s.size ≤ maxLen) (hp : 0 < s.size) :
  Calls Tryz.prog 139 #[.string s] w fun e w' => e = .returned (.int .i64 (sgOf s.data.toList : Int)) ∧ Below w.heap.size w w' := by
 have b0 : s[0].toNat < 256 := s[0].toNat_lt
 have e0 := get_byte s 0 hp
 have hN := sgOf_N s.data.toList
 rw [e0, ← Lib.size_eq] at hN
 have lt : ∀ i, (s.data.toList.getD i 0).toNat < 256 := fun i => (s.data.toList.getD i 0).toNat_lt
 have eb : ∀ i, i < s.size → byt s i = ((s.data.toList.getD i 0).toNat : Int) := fun i hi => by rw [byt_at s i hi, get_byte s i hi]
 by_cases c1 : s[0].toNat < 128
 ·rw [hN, sgN_one _ _ _ _ _ c1]; exact sign_one s w hp (by omega)
 ·by_cases c2 : s[0].toNat < 192
  ·rw [hN, sgN_none _ _ _ _ _ (.inl (by omega))]; exact sign_low s w hp (by omega) (by omega)
  ·by_cases c3 : s[0].toNat < 224
   ·by_cases hl : 2 ≤ s.size
    ·rw [hN]
     exact sign_2 s _ w hs hl (by omega) (by omega) (sgN_2 _ _ _ _ _ (by omega) c3 (lt 1) hl _ (eb 1 (by omega)))
    ·rw [hN, sgN_2short _ _ _ _ _ (by omega) c3 (by omega)]; exact sign_2short s w hp (by omega) (by omega) (by omega)
   ·by_cases c4 : s[0].toNat < 240
    ·by_cases hl : 3 ≤ s.size
     ·rw [hN]
      exact sign_3 s _ w hs hl (by omega) (by omega) (sgN_3 _ _ _ _ _ (by omega) c4 (lt 1) (lt 2) hl _ (eb 1 (by omega)) (eb 2 (by omega)))
     ·rw [hN, sgN_3short _ _ _ _ _ (by omega) c4 (by omega)]; exact sign_3short s w hp (by omega) (by omega) (by omega)
    ·by_cases c5 : s[0].toNat < 248
     ·by_cases hl : 4 ≤ s.size
      ·rw [hN]
       exact sign_4 s _ w hs hl (by omega) (by omega) (sgN_4 _ _ _ _ _ (by omega) c5 (lt 1) (lt 2) (lt 3) hl _ (eb 1 (by omega)) (eb 2 (by omega)) (eb 3 (by omega)))
      ·rw [hN, sgN_4short _ _ _ _ _ (by omega) c5 (by omega)]; exact sign_4short s w hp (by omega) (by omega) (by omega)
     ·rw [hN, sgN_none _ _ _ _ _ (.inr (by omega))]; exact sign_high s w hp (by omega)
theorem valid_sg (l : List UInt8) (h : l ≠ []) : Lib.validD l = if sgOf l = 0 then false else Lib.validD (l.drop (sgOf l)) := by
 rw [Lib.validD_step l h]
 by_cases c : (Lib.decodeL l).1 = 65533 ∧ (Lib.decodeL l).2 = 1
 ·have : sgOf l = 0 := by unfold sgOf; rw [if_pos c]
  rw [if_pos c, if_pos this]
 ·have e : sgOf l = (Lib.decodeL l).2 := by unfold sgOf; rw [if_neg c]
  have := Lib.decodeL_width l
  rw [if_neg c, e, if_neg (by omega)]
theorem sg_le (l : List UInt8) (h : l ≠ []) : sgOf l ≤ l.length := by
 unfold sgOf
 split
 ·omega
 ·exact Lib.decodeL_le l h
theorem isText_at (s : ByteArray) (b : Bool) (w : World) (hs : s.size ≤ maxLen) (H : Hid (Lib.validD s.data.toList = b)) :
  Calls Tryz.prog 117 #[.string s] w fun e w' => e = .returned (.bool b) ∧ Below w.heap.size w w' := by
 go_enter Tryz.func117, Tryz.ntmps117
 go_wp2
 go_loopg [0] (s.size + 1) (fun gk t wr => ∃ T : ByteArray, t = .string T ∧ T.size ≤ maxLen ∧ T.size < gk ∧ Hid (Lib.validD T.data.toList = b) ∧ Below w.heap.size w wr)
 case atStart => exact ⟨s, rfl, hs, by omega, H, Below.refl _ _⟩
 case round =>
  obtain ⟨T, rfl, hTs, hTg, HT, hb⟩ := hrel
  clear H
  have hsz := hb.size
  by_cases hz : T.size = 0
  ·have hnil : T.data.toList = [] := List.eq_nil_of_length_eq_zero (by rw [← Lib.size_eq]; exact hz)
   have hne : T.toList.isEmpty = true := by rw [Lib.toList_data, hnil]; rfl
   have HB : Hid (true = b) := by unfold Hid; rw [← HT.out, hnil]; rfl
   clear HT hnil
   go_wp2
   go_ret
   exact ⟨ret_b HB.out, hb⟩
  ·have hnn : T.data.toList ≠ [] := fun e => hz (by rw [Lib.size_eq, e]; rfl)
   have hne : T.toList.isEmpty = false := by rw [Lib.toList_data]; simpa using hnn
   have hv := valid_sg T.data.toList hnn
   have hle := sg_le T.data.toList hnn
   rw [← Lib.size_eq] at hle
   have SG : Hid (∀ w, Calls Tryz.prog 139 #[.string T] w fun e w' => e = .returned (.int .i64 (sgOf T.data.toList : Int)) ∧ Below w.heap.size w w') := fun w => sign_any T w hTs (by omega)
   obtain ⟨R, hR⟩ : ∃ R, sgOf T.data.toList = R := ⟨_, rfl⟩
   rw [hR] at hv hle SG
   rw [HT.out] at hv
   clear HT hR hnn
   by_cases h0 : R = 0
   ·have HB : Hid (false = b) := by unfold Hid; rw [hv, if_pos h0]
    subst h0
    clear hv
    go_wp2_with (go_at_call 139; refine (SG.out _).mono ?_; rintro e w1 ⟨rfl, b1⟩)
    go_ret
    exact ⟨ret_b HB.out, hb.trans (b1.mono hsz)⟩
   ·have HB : Hid (Lib.validD (T.extract R T.size).data.toList = b) := by unfold Hid; rw [hv, if_neg h0, Lib.ext_list]
    have hRz : ((R : Int) == 0) = false := by rw [beq_eq_false_iff_ne]; omega
    have hlei : (R : Int) ≤ (T.size : Int) := by omega
    have HZ : Hid ((T.extract R T.size).size = T.size - R) := Lib.ext_size T R
    obtain ⟨g', rfl⟩ : ∃ g', gk = g' + 1 := ⟨gk - 1, by omega⟩
    clear hv
    go_wp2_with (go_at_call 139; refine (SG.out _).mono ?_; rintro e w1 ⟨rfl, b1⟩)
    go_roundg g'
    case measure => omega
    case rel => exact ⟨_, rfl, by rw [HZ.out]; omega, by rw [HZ.out]; omega, HB, hb.trans (b1.mono hsz)⟩
end Go.Proofs.YtmemiohompdibaaGreatDoor
