/-
  What the document's own sign does: how many bytes the sign has with which a text begins.
-/
import Derived.Test.YtakpkdckajjooaaGreatDoorCQB
import Derived.Lib.ValidLaws
import Derived.Lib.TrimUEq
set_option maxHeartbeats 1000000
set_option maxRecDepth 100000
namespace Go.Proofs.YtakpkdckajjooaaGreatDoor
set_option linter.unusedVariables false
open Go.RowKit
def sgGo (b : Nat → Int) (m : Nat) (least : Int) : Nat → Nat → Int → Int
  | 0, _, v => if v < least ∨ 1114111 < v ∨ (55296 ≤ v ∧ v ≤ 57343) then 0 else m
  | f + 1, i, v => if b i < 128 ∨ 191 < b i then 0 else sgGo b m least f (i + 1) (v * 64 + b i - 128)
theorem sgGo_bad {b : Nat → Int} {m f i : Nat} {least v : Int} (h : b i < 128 ∨ 191 < b i) : sgGo b m least (f + 1) i v = 0 := by rw [sgGo, if_pos h]
theorem sgGo_next {b : Nat → Int} {m f i : Nat} {least v : Int} (h1 : ¬ b i < 128) (h2 : ¬ 191 < b i) : sgGo b m least (f + 1) i v = sgGo b m least f (i + 1) (v * 64 + b i - 128) := by
  rw [sgGo, if_neg (by omega)]
def byt (s : ByteArray) (i : Nat) : Int := (nums s).getD i 0
theorem byt_at (s : ByteArray) (i : Nat) (h : i < s.size) : byt s i = (s[i].toNat : Int) := by
  unfold byt
  have hl : i < (nums s).length := by rw [nums_length]; exact h
  rw [List.getD_eq_getElem?_getD, List.getElem?_eq_getElem hl, Option.getD_some]
  simp only [nums, List.getElem_map]
  rfl
theorem pow64 (i : Nat) (h : i ≤ 3) : (64 : Int) ^ i ≤ 262144 := by
  have : (64 : Int) ^ i ≤ 64 ^ 3 := by exact_mod_cast Nat.pow_le_pow_right (by omega : 0 < 64) h
  exact this
theorem sign_2 (s : ByteArray) (R : Int) (w : World) (hs : s.size ≤ maxLen) (hz : 2 ≤ s.size) (h0 : (192 : Int) ≤ (s[0].toNat : Int)) (h1 : (s[0].toNat : Int) < 224) (H : Hid (sgGo (byt s) 2 128 1 1 ((s[0].toNat : Int) - 192) = R)) :
    Calls Tryz.prog 171 #[.string s] w fun e w' => e = .returned (.int .i64 R) ∧ Below w.heap.size w w' := by
  unfold maxLen at hs
  have hpos : (0 : Int) < (s.size : Int) := by omega
  go_enter Tryz.func171, Tryz.ntmps171
  go_wp2
  go_loop [5, 6] (fun t i => ∃ k : Nat, ∃ v : Int, i = .int .i64 k ∧ t = .int .i64 v ∧ 1 ≤ k ∧ k ≤ 2 ∧ 0 ≤ v ∧ v < 64 ^ k ∧ Hid (sgGo (byt s) 2 128 (2 - k) k v = R)) (fun _ i => 2 - (intOf i).toNat)
  case atStart => exact ⟨1, _, rfl, rfl, by omega, by omega, by omega, by omega, H⟩
  case round =>
    obtain ⟨k, v, rfl, rfl, hk1, hkm, hv0, hv1, HK⟩ := hrel
    clear H
    by_cases hlt : k < 2
    · have hks : k < s.size := by omega
      have hb := byt_at s k hks
      have hp := pow64 k (by omega)
      have hv2 : v ≤ 262143 := by omega
      have hb8 : s[k].toNat < 256 := s[k].toNat_lt
      obtain ⟨f, hf⟩ : ∃ f, 2 - k = f + 1 := ⟨2 - k - 1, by omega⟩
      by_cases hlo : (s[k].toNat : Int) < 128
      · have HE : Hid (R = 0) := by unfold Hid; rw [← HK.out, hf]; exact sgGo_bad (.inl (by omega))
        clear HK hb hp hf
        go_wp2
        go_ret
        exact ⟨by rw [HE.out]; rfl, Below.refl _ _⟩
      · by_cases hhi : (191 : Int) < (s[k].toNat : Int)
        · have HE : Hid (R = 0) := by unfold Hid; rw [← HK.out, hf]; exact sgGo_bad (.inr (by omega))
          clear HK hb hp hf
          go_wp2
          go_ret
          exact ⟨by rw [HE.out]; rfl, Below.refl _ _⟩
        · have HN : Hid (sgGo (byt s) 2 128 (2 - (k + 1)) (k + 1) (v * 64 + (s[k].toNat : Int) - 128) = R) := by
            unfold Hid
            have := HK.out
            rw [hf, sgGo_next (by omega) (by omega), hb] at this
            rw [show 2 - (k + 1) = f from by omega]
            exact this
          have HP : Hid (v * 64 + (s[k].toNat : Int) - 128 < 64 ^ (k + 1)) := by unfold Hid; rw [Int.pow_succ]; omega
          clear HK hb hp hf
          go_wp2
          go_round
          case rel => exact ⟨k + 1, _, by go_num, rfl, by omega, by omega, by omega, HP.out, HN⟩
          case measure => simp [intOf]; omega
    · have hkk : k = 2 := by omega
      subst hkk
      have e := HK.out
      rw [Nat.sub_self, sgGo] at e
      have hv2 : v ≤ 16777215 := by have : (64 : Int) ^ 2 ≤ 16777216 := by decide
                                    omega
      clear HK hv1
      by_cases c1 : v < 128
      · rw [if_pos (.inl c1)] at e
        have E : Hid _ := e
        clear e
        go_wp2
        go_ret
        exact ⟨by rw [← E.out]; rfl, (Below.refl _ _).alloc (Nat.le_refl _) _⟩
      · by_cases c2 : (1114111 : Int) < v
        · rw [if_pos (.inr (.inl c2))] at e
          have E : Hid _ := e
          clear e
          go_wp2
          go_ret
          exact ⟨by rw [← E.out]; rfl, (Below.refl _ _).alloc (Nat.le_refl _) _⟩
        · by_cases c3 : (55296 : Int) ≤ v
          · by_cases c4 : v ≤ 57343
            · rw [if_pos (.inr (.inr ⟨c3, c4⟩))] at e
              have E : Hid _ := e
              clear e
              go_wp2
              go_ret
              exact ⟨by rw [← E.out]; rfl, (Below.refl _ _).alloc (Nat.le_refl _) _⟩
            · rw [if_neg (by omega)] at e
              have E : Hid _ := e
              clear e
              go_wp2
              go_ret
              exact ⟨by rw [← E.out]; rfl, (Below.refl _ _).alloc (Nat.le_refl _) _⟩
          · rw [if_neg (by omega)] at e
            have E : Hid _ := e
            clear e
            go_wp2
            go_ret
            exact ⟨by rw [← E.out]; rfl, (Below.refl _ _).alloc (Nat.le_refl _) _⟩
theorem sign_2short (s : ByteArray) (w : World) (hp : 0 < s.size) (hz : (s.size : Int) < 2) (h0 : (192 : Int) ≤ (s[0].toNat : Int)) (h1 : (s[0].toNat : Int) < 224) :
    Calls Tryz.prog 171 #[.string s] w fun e w' => e = .returned (.int .i64 0) ∧ Below w.heap.size w w' := by
  have hpos : (0 : Int) < (s.size : Int) := by omega
  go_enter Tryz.func171, Tryz.ntmps171
  go_wp2
  go_ret
  exact ⟨rfl, Below.refl _ _⟩
theorem sign_3 (s : ByteArray) (R : Int) (w : World) (hs : s.size ≤ maxLen) (hz : 3 ≤ s.size) (h0 : (224 : Int) ≤ (s[0].toNat : Int)) (h1 : (s[0].toNat : Int) < 240) (H : Hid (sgGo (byt s) 3 2048 2 1 ((s[0].toNat : Int) - 224) = R)) :
    Calls Tryz.prog 171 #[.string s] w fun e w' => e = .returned (.int .i64 R) ∧ Below w.heap.size w w' := by
  unfold maxLen at hs
  have hpos : (0 : Int) < (s.size : Int) := by omega
  go_enter Tryz.func171, Tryz.ntmps171
  go_wp2
  go_loop [5, 6] (fun t i => ∃ k : Nat, ∃ v : Int, i = .int .i64 k ∧ t = .int .i64 v ∧ 1 ≤ k ∧ k ≤ 3 ∧ 0 ≤ v ∧ v < 64 ^ k ∧ Hid (sgGo (byt s) 3 2048 (3 - k) k v = R)) (fun _ i => 3 - (intOf i).toNat)
  case atStart => exact ⟨1, _, rfl, rfl, by omega, by omega, by omega, by omega, H⟩
  case round =>
    obtain ⟨k, v, rfl, rfl, hk1, hkm, hv0, hv1, HK⟩ := hrel
    clear H
    by_cases hlt : k < 3
    · have hks : k < s.size := by omega
      have hb := byt_at s k hks
      have hp := pow64 k (by omega)
      have hv2 : v ≤ 262143 := by omega
      have hb8 : s[k].toNat < 256 := s[k].toNat_lt
      obtain ⟨f, hf⟩ : ∃ f, 3 - k = f + 1 := ⟨3 - k - 1, by omega⟩
      by_cases hlo : (s[k].toNat : Int) < 128
      · have HE : Hid (R = 0) := by unfold Hid; rw [← HK.out, hf]; exact sgGo_bad (.inl (by omega))
        clear HK hb hp hf
        go_wp2
        go_ret
        exact ⟨by rw [HE.out]; rfl, Below.refl _ _⟩
      · by_cases hhi : (191 : Int) < (s[k].toNat : Int)
        · have HE : Hid (R = 0) := by unfold Hid; rw [← HK.out, hf]; exact sgGo_bad (.inr (by omega))
          clear HK hb hp hf
          go_wp2
          go_ret
          exact ⟨by rw [HE.out]; rfl, Below.refl _ _⟩
        · have HN : Hid (sgGo (byt s) 3 2048 (3 - (k + 1)) (k + 1) (v * 64 + (s[k].toNat : Int) - 128) = R) := by
            unfold Hid
            have := HK.out
            rw [hf, sgGo_next (by omega) (by omega), hb] at this
            rw [show 3 - (k + 1) = f from by omega]
            exact this
          have HP : Hid (v * 64 + (s[k].toNat : Int) - 128 < 64 ^ (k + 1)) := by unfold Hid; rw [Int.pow_succ]; omega
          clear HK hb hp hf
          go_wp2
          go_round
          case rel => exact ⟨k + 1, _, by go_num, rfl, by omega, by omega, by omega, HP.out, HN⟩
          case measure => simp [intOf]; omega
    · have hkk : k = 3 := by omega
      subst hkk
      have e := HK.out
      rw [Nat.sub_self, sgGo] at e
      have hv2 : v ≤ 16777215 := by have : (64 : Int) ^ 3 ≤ 16777216 := by decide
                                    omega
      clear HK hv1
      by_cases c1 : v < 2048
      · rw [if_pos (.inl c1)] at e
        have E : Hid _ := e
        clear e
        go_wp2
        go_ret
        exact ⟨by rw [← E.out]; rfl, (Below.refl _ _).alloc (Nat.le_refl _) _⟩
      · by_cases c2 : (1114111 : Int) < v
        · rw [if_pos (.inr (.inl c2))] at e
          have E : Hid _ := e
          clear e
          go_wp2
          go_ret
          exact ⟨by rw [← E.out]; rfl, (Below.refl _ _).alloc (Nat.le_refl _) _⟩
        · by_cases c3 : (55296 : Int) ≤ v
          · by_cases c4 : v ≤ 57343
            · rw [if_pos (.inr (.inr ⟨c3, c4⟩))] at e
              have E : Hid _ := e
              clear e
              go_wp2
              go_ret
              exact ⟨by rw [← E.out]; rfl, (Below.refl _ _).alloc (Nat.le_refl _) _⟩
            · rw [if_neg (by omega)] at e
              have E : Hid _ := e
              clear e
              go_wp2
              go_ret
              exact ⟨by rw [← E.out]; rfl, (Below.refl _ _).alloc (Nat.le_refl _) _⟩
          · rw [if_neg (by omega)] at e
            have E : Hid _ := e
            clear e
            go_wp2
            go_ret
            exact ⟨by rw [← E.out]; rfl, (Below.refl _ _).alloc (Nat.le_refl _) _⟩
theorem sign_3short (s : ByteArray) (w : World) (hp : 0 < s.size) (hz : (s.size : Int) < 3) (h0 : (224 : Int) ≤ (s[0].toNat : Int)) (h1 : (s[0].toNat : Int) < 240) :
    Calls Tryz.prog 171 #[.string s] w fun e w' => e = .returned (.int .i64 0) ∧ Below w.heap.size w w' := by
  have hpos : (0 : Int) < (s.size : Int) := by omega
  go_enter Tryz.func171, Tryz.ntmps171
  go_wp2
  go_ret
  exact ⟨rfl, Below.refl _ _⟩
theorem sign_4 (s : ByteArray) (R : Int) (w : World) (hs : s.size ≤ maxLen) (hz : 4 ≤ s.size) (h0 : (240 : Int) ≤ (s[0].toNat : Int)) (h1 : (s[0].toNat : Int) < 248) (H : Hid (sgGo (byt s) 4 65536 3 1 ((s[0].toNat : Int) - 240) = R)) :
    Calls Tryz.prog 171 #[.string s] w fun e w' => e = .returned (.int .i64 R) ∧ Below w.heap.size w w' := by
  unfold maxLen at hs
  have hpos : (0 : Int) < (s.size : Int) := by omega
  go_enter Tryz.func171, Tryz.ntmps171
  go_wp2
  go_loop [5, 6] (fun t i => ∃ k : Nat, ∃ v : Int, i = .int .i64 k ∧ t = .int .i64 v ∧ 1 ≤ k ∧ k ≤ 4 ∧ 0 ≤ v ∧ v < 64 ^ k ∧ Hid (sgGo (byt s) 4 65536 (4 - k) k v = R)) (fun _ i => 4 - (intOf i).toNat)
  case atStart => exact ⟨1, _, rfl, rfl, by omega, by omega, by omega, by omega, H⟩
  case round =>
    obtain ⟨k, v, rfl, rfl, hk1, hkm, hv0, hv1, HK⟩ := hrel
    clear H
    by_cases hlt : k < 4
    · have hks : k < s.size := by omega
      have hb := byt_at s k hks
      have hp := pow64 k (by omega)
      have hv2 : v ≤ 262143 := by omega
      have hb8 : s[k].toNat < 256 := s[k].toNat_lt
      obtain ⟨f, hf⟩ : ∃ f, 4 - k = f + 1 := ⟨4 - k - 1, by omega⟩
      by_cases hlo : (s[k].toNat : Int) < 128
      · have HE : Hid (R = 0) := by unfold Hid; rw [← HK.out, hf]; exact sgGo_bad (.inl (by omega))
        clear HK hb hp hf
        go_wp2
        go_ret
        exact ⟨by rw [HE.out]; rfl, Below.refl _ _⟩
      · by_cases hhi : (191 : Int) < (s[k].toNat : Int)
        · have HE : Hid (R = 0) := by unfold Hid; rw [← HK.out, hf]; exact sgGo_bad (.inr (by omega))
          clear HK hb hp hf
          go_wp2
          go_ret
          exact ⟨by rw [HE.out]; rfl, Below.refl _ _⟩
        · have HN : Hid (sgGo (byt s) 4 65536 (4 - (k + 1)) (k + 1) (v * 64 + (s[k].toNat : Int) - 128) = R) := by
            unfold Hid
            have := HK.out
            rw [hf, sgGo_next (by omega) (by omega), hb] at this
            rw [show 4 - (k + 1) = f from by omega]
            exact this
          have HP : Hid (v * 64 + (s[k].toNat : Int) - 128 < 64 ^ (k + 1)) := by unfold Hid; rw [Int.pow_succ]; omega
          clear HK hb hp hf
          go_wp2
          go_round
          case rel => exact ⟨k + 1, _, by go_num, rfl, by omega, by omega, by omega, HP.out, HN⟩
          case measure => simp [intOf]; omega
    · have hkk : k = 4 := by omega
      subst hkk
      have e := HK.out
      rw [Nat.sub_self, sgGo] at e
      have hv2 : v ≤ 16777215 := by have : (64 : Int) ^ 4 ≤ 16777216 := by decide
                                    omega
      clear HK hv1
      by_cases c1 : v < 65536
      · rw [if_pos (.inl c1)] at e
        have E : Hid _ := e
        clear e
        go_wp2
        go_ret
        exact ⟨by rw [← E.out]; rfl, (Below.refl _ _).alloc (Nat.le_refl _) _⟩
      · by_cases c2 : (1114111 : Int) < v
        · rw [if_pos (.inr (.inl c2))] at e
          have E : Hid _ := e
          clear e
          go_wp2
          go_ret
          exact ⟨by rw [← E.out]; rfl, (Below.refl _ _).alloc (Nat.le_refl _) _⟩
        · by_cases c3 : (55296 : Int) ≤ v
          · by_cases c4 : v ≤ 57343
            · exfalso; omega
            · rw [if_neg (by omega)] at e
              have E : Hid _ := e
              clear e
              go_wp2
              go_ret
              exact ⟨by rw [← E.out]; rfl, (Below.refl _ _).alloc (Nat.le_refl _) _⟩
          · exfalso; omega
theorem sign_4short (s : ByteArray) (w : World) (hp : 0 < s.size) (hz : (s.size : Int) < 4) (h0 : (240 : Int) ≤ (s[0].toNat : Int)) (h1 : (s[0].toNat : Int) < 248) :
    Calls Tryz.prog 171 #[.string s] w fun e w' => e = .returned (.int .i64 0) ∧ Below w.heap.size w w' := by
  have hpos : (0 : Int) < (s.size : Int) := by omega
  go_enter Tryz.func171, Tryz.ntmps171
  go_wp2
  go_ret
  exact ⟨rfl, Below.refl _ _⟩
theorem sign_one (s : ByteArray) (w : World) (hp : 0 < s.size) (h1 : (s[0].toNat : Int) < 128) :
    Calls Tryz.prog 171 #[.string s] w fun e w' => e = .returned (.int .i64 1) ∧ Below w.heap.size w w' := by
  have hpos : (0 : Int) < (s.size : Int) := by omega
  go_enter Tryz.func171, Tryz.ntmps171
  go_wp2
  go_ret
  exact ⟨rfl, Below.refl _ _⟩
theorem sign_low (s : ByteArray) (w : World) (hp : 0 < s.size) (h0 : (128 : Int) ≤ (s[0].toNat : Int)) (h1 : (s[0].toNat : Int) < 192) :
    Calls Tryz.prog 171 #[.string s] w fun e w' => e = .returned (.int .i64 0) ∧ Below w.heap.size w w' := by
  have hpos : (0 : Int) < (s.size : Int) := by omega
  go_enter Tryz.func171, Tryz.ntmps171
  go_wp2
  go_ret
  exact ⟨rfl, Below.refl _ _⟩
theorem sign_high (s : ByteArray) (w : World) (hp : 0 < s.size) (h0 : (248 : Int) ≤ (s[0].toNat : Int)) :
    Calls Tryz.prog 171 #[.string s] w fun e w' => e = .returned (.int .i64 0) ∧ Below w.heap.size w w' := by
  have hpos : (0 : Int) < (s.size : Int) := by omega
  have hb8 : s[0].toNat < 256 := s[0].toNat_lt
  go_enter Tryz.func171, Tryz.ntmps171
  go_wp2
  go_ret
  exact ⟨rfl, Below.refl _ _⟩
end Go.Proofs.YtakpkdckajjooaaGreatDoor
