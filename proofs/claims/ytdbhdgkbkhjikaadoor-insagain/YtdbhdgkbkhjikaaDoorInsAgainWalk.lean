/-
  The law of what is read again: its walk.
-/
import Derived.Test.YtdbhdgkbkhjikaaDoorInsM2
import Derived.Test.YtdbhdgkbkhjikaaDoorInsR8
import Derived.OpenShut
namespace Go.Proofs.YtdbhdgkbkhjikaaDoor
open Go.RowKit

set_option maxHeartbeats 8000000 in
set_option maxRecDepth 1000000 in
theorem rest_any (n m k : Int) (_hm0 : 0 < m) (_hm1 : m ≤ 1000000) (hk : n % m = k) (_hn0 : -9223372036854775808 ≤ n) (_hn1 : n ≤ 9223372036854775807) (w : World) :
    Calls Tryd.prog 20 #[.int .i64 n, .int .i64 m] w fun e w' => e = .returned (.int .i64 k) ∧ w' = w := by
  have ht : n.tmod m = if 0 ≤ n ∨ n % m = 0 then n % m else n % m - m := by
    rw [Int.tmod_eq_emod]
    have hd : (m ∣ n) ↔ n % m = 0 := Int.dvd_iff_emod_eq_zero
    by_cases h1 : 0 ≤ n ∨ n % m = 0
    · rw [if_pos h1, if_pos (by rcases h1 with h1 | h1; exact Or.inl h1; exact Or.inr (hd.2 h1))]
      omega
    · rw [if_neg h1, if_neg (by intro h; apply h1; rcases h with h | h; exact Or.inl h; exact Or.inr (hd.1 h))]
      omega
  have h0 := Int.emod_nonneg n (b := m) (by omega)
  have h1 := Int.emod_lt_of_pos n _hm0
  rw [hk] at h0 h1 ht
  obtain ⟨t, htt⟩ : ∃ t, n.tmod m = t := ⟨_, rfl⟩
  rw [htt] at ht
  by_cases hneg : t < 0
  · have e : t + m = k := by
      split at ht <;> omega
    have e' : k = t + m := e.symm
    subst e'
    have hlo : -1000000 ≤ t := by omega
    clear ht hk h0 h1
    go_enter Tryd.func20, Tryd.ntmps20
    go_wp2
    go_ret
    exact ⟨rfl, rfl⟩
  · have e : t = k := by
      split at ht <;> omega
    subst e
    clear ht hk
    go_enter Tryd.func20, Tryd.ntmps20
    go_wp2
    go_ret
    exact ⟨rfl, rfl⟩
theorem str_ne (t : ByteArray) (h : 0 < t.size) : t.toList.isEmpty = false := by
  have hd : t.toList = t.data.toList := Lib.toList_data t
  rw [hd]
  have h2 : 0 < t.data.toList.length := by rw [Array.length_toList]; exact h
  cases hh : t.data.toList with
  | nil => rw [hh] at h2; simp at h2
  | cons a b => rfl
theorem write_ok (op A B : Int) (o : Option Addr) (xs : List Int) (h0 : 0 ≤ op) (h1 : op ≤ 255) (hc : fitC (besV op) A B xs) (hA : -9223372036854775808 ≤ A ∧ A ≤ 9223372036854775807) (w : World) (h : LI w o xs) (hT : TabIn w) (ht0 : 1 < w.heap.size) :
    Calls Tryd.prog 8 #[.agg #[.int .u8 op, .int .i64 A, .int .i64 B, .slice o xs.length xs.length]] w fun r w' => ∃ t, r = .returned (.tuple #[.string t, .int .i64 0]) ∧ nums t = op :: besT (besV op) A B xs ∧ Below w.heap.size w w' := by
  have hT' : ∀ w', Below w.heap.size w w' → TabIn w' := fun w' hb => hT.chg (P := w.heap.size) (Chg.of_below hb) ht0 (by omega)
  refine (write_core op A B o xs.length (besT (besV op) A B xs).length (besT (besV op) A B xs) (besT_len _ _ _ _ hc hA) w (fun w' hb => check_ok op A B o xs h0 h1 hc w' (h.below hb) (hT' w' hb) (Nat.lt_of_lt_of_le ht0 hb.size)) (fun w' hb => ?_)).mono ?_
  · refine (text_ok op A B o xs h0 h1 hc hA w' (h.below hb) (hT' w' hb) (Nat.lt_of_lt_of_le ht0 hb.size)).mono ?_
    rintro r w1 ⟨t, rfl, ht, b⟩
    exact ⟨t, rfl, ⟨ht, by rw [← ht, nums_length]⟩, b⟩
  · rintro r w1 ⟨t, rfl, ht, b⟩
    refine ⟨_, rfl, ?_, b⟩
    rw [nums_append, ht, nums_str (by intro b hb; simp at hb; subst hb; omega)]
    rfl
set_option maxHeartbeats 8000000 in
set_option maxRecDepth 1000000 in
theorem again_err (s : ByteArray) (at_ e : Int) (_he : (e == 0) = false) (w : World) (HE : Hid (∀ w', Below w.heap.size w w' → Calls Tryd.prog 17 #[.string ⟨#[]⟩] w' fun r w'' => r = .returned (.tuple #[.agg #[.int .u8 0, .int .i64 0, .int .i64 0, .slice none 0 0], .int .i64 0, .int .i64 3]) ∧ Below w'.heap.size w' w'')) (HS : Hid (∀ w', Below w.heap.size w w' → Calls Tryd.prog 17 #[.string s] w' fun r w'' => r = .returned (.tuple #[.agg #[.int .u8 0, .int .i64 0, .int .i64 0, .slice none 0 0], .int .i64 0, .int .i64 e]) ∧ Below w'.heap.size w' w'')) :
    Calls Tryd.prog 6 #[.string s, .int .i64 at_] w fun r w' => r = .returned (.bool true) ∧ Below w.heap.size w w' := by
  have hne : (e != 0) = true := by rw [bne, _he]; rfl
  go_enter Tryd.func6, Tryd.ntmps6
  go_wp2_with fail
  refine (HE.out _ (Below.refl _ _)).mono ?_
  rintro e w1 ⟨rfl, b1⟩
  go_wp2_with fail
  have HB1 : Hid (Below w.heap.size w (w1.alloc (Obj.cells #[.int .u8 0, .int .i64 0, .int .i64 0, .slice none 0 0] 24))) := b1.alloc b1.size _
  generalize w1.alloc (Obj.cells #[.int .u8 0, .int .i64 0, .int .i64 0, .slice none 0 0] 24) = w2 at HB1 ⊢
  clear b1
  refine (HS.out _ HB1.out).mono ?_
  rintro e w3 ⟨rfl, b3⟩
  go_wp2
  go_ret
  exact ⟨rfl, (HB1.out.trans (b3.mono HB1.out.size)).alloc (Nat.le_trans HB1.out.size b3.size) _⟩
set_option maxHeartbeats 8000000 in
set_option maxRecDepth 1000000 in
theorem again_ok (s : ByteArray) (_hs : s.size ≤ 140737488355328) (at_ op A B k rr : Int) (xs : List Int) (N : Nat) (_hN0 : 0 < N) (_hN : (N : Int) ≤ k) (_hk : k ≤ (s.size : Int)) (_hr0 : 0 ≤ rr) (_hr1 : rr < (N : Int)) (w : World) (HE : Hid (∀ w', Below w.heap.size w w' → Calls Tryd.prog 17 #[.string ⟨#[]⟩] w' fun r w'' => r = .returned (.tuple #[.agg #[.int .u8 0, .int .i64 0, .int .i64 0, .slice none 0 0], .int .i64 0, .int .i64 3]) ∧ Below w'.heap.size w' w''))
    (HS : Hid (∀ w', Below w.heap.size w w' → Calls Tryd.prog 17 #[.string s] w' fun r w'' => ∃ o, r = .returned (.tuple #[.agg #[.int .u8 op, .int .i64 A, .int .i64 B, .slice o xs.length xs.length], .int .i64 k, .int .i64 0]) ∧ LI w'' o xs ∧ Below w'.heap.size w' w''))
    (HWR : Hid (∀ w' o, Below w.heap.size w w' → LI w' o xs → Calls Tryd.prog 8 #[.agg #[.int .u8 op, .int .i64 A, .int .i64 B, .slice o xs.length xs.length]] w' fun r w'' => ∃ t, r = .returned (.tuple #[.string t, .int .i64 0]) ∧ t.size = N ∧ Hid (∀ w', Below w.heap.size w w' → Calls Tryd.prog 17 #[.string (t.extract 0 rr.toNat)] w' fun r w'' => r = .returned (.tuple #[.agg #[.int .u8 0, .int .i64 0, .int .i64 0, .slice none 0 0], .int .i64 0, .int .i64 3]) ∧ Below w'.heap.size w' w'') ∧ Below w'.heap.size w' w''))
    (HRE : Hid (∀ w, Calls Tryd.prog 20 #[.int .i64 at_, .int .i64 (N : Int)] w fun e w' => e = .returned (.int .i64 rr) ∧ w' = w)) :
    Calls Tryd.prog 6 #[.string s, .int .i64 at_] w fun r w' => r = .returned (.bool true) ∧ Below w.heap.size w w' := by
  go_enter Tryd.func6, Tryd.ntmps6
  go_wp2_with fail
  refine (HE.out _ (Below.refl _ _)).mono ?_
  rintro e w1 ⟨rfl, b1⟩
  go_wp2_with fail
  have HB1 : Hid (Below w.heap.size w (w1.alloc (Obj.cells #[.int .u8 0, .int .i64 0, .int .i64 0, .slice none 0 0] 24))) := b1.alloc b1.size _
  generalize w1.alloc (Obj.cells #[.int .u8 0, .int .i64 0, .int .i64 0, .slice none 0 0] 24) = w2 at HB1 ⊢
  clear b1
  refine (HS.out _ HB1.out).mono ?_
  rintro e w3 ⟨o, rfl, hli, b3⟩
  have HB3 : Hid (Below w.heap.size w w3) := HB1.out.trans (b3.mono HB1.out.size)
  have HLI : Hid (LI w3 o xs) := hli
  clear b3 hli HB1
  go_wp2_with fail
  refine (HWR.out _ o (HB3.out.alloc HB3.out.size _) (HLI.out.below ((Below.refl _ _).alloc (Nat.le_refl _) _))).mono ?_
  rintro e w4 ⟨t, rfl, ht, HX, b4⟩
  have HB4 : Hid (Below w.heap.size w w4) := (HB3.out.alloc HB3.out.size _).trans (b4.mono (HB3.out.alloc HB3.out.size _).size)
  clear b4 HLI HB3
  have hte : t.toList.isEmpty = false := str_ne t (by omega)
  go_wp2_with fail
  refine (HRE.out _).mono ?_
  rintro e w5 ⟨rfl, rfl⟩
  go_wp2_with fail
  refine (HX.out _ HB4.out).mono ?_
  rintro e w6 ⟨rfl, b6⟩
  go_wp2
  go_ret
  exact ⟨rfl, (HB4.out.trans (b6.mono HB4.out.size)).alloc (Nat.le_trans HB4.out.size b6.size) _⟩
theorem insAgain_walk (a0 : ByteArray) (a1 : Int) (z0' : a0.data.toList.length ≤ reachBytes) (w1 : (Lit.int .i64 a1).wf = true) (w : World) (hT : TabIn w) :
    Calls Tryd.prog 6 #[.string a0, .int .i64 a1] w fun r w' => r = .returned (.bool true) ∧ Below w.heap.size w w' := by
  have z0 : a0.size ≤ 140737488351232 := by
    rw [Array.length_toList] at z0'
    exact z0'
  have ht0 : 1 < w.heap.size := by
    have hc := hT 0 (by omega)
    apply Nat.lt_of_not_le
    intro hle
    have : w.heap[1]? = none := Array.getElem?_eq_none hle
    simp [World.cell?, this] at hc
  have hb1 := bounds_i64 w1
  have hT' : ∀ w', Below w.heap.size w w' → TabIn w' := fun w' hb => hT.chg (P := w.heap.size) (Chg.of_below hb) ht0 (by omega)
  have short : ∀ (t : ByteArray), t.size ≤ maxLen → (mIns (nums t) 0).e = 3 → ∀ w', Below w.heap.size w w' → Calls Tryd.prog 17 #[.string t] w' fun r w'' => r = .returned (.tuple #[.agg #[.int .u8 0, .int .i64 0, .int .i64 0, .slice none 0 0], .int .i64 0, .int .i64 3]) ∧ Below w'.heap.size w' w'' := by
    intro t ht he w' hb
    refine (read_any t ht w' (hT' w' hb) (Nat.lt_of_lt_of_le ht0 hb.size)).mono ?_
    rintro r w2 ⟨b, h⟩
    rcases h with ⟨_, rfl⟩ | ⟨h0, _⟩
    · rw [he]; exact ⟨rfl, b⟩
    · rw [he] at h0; exact absurd h0 (by decide)
  have hE := short ⟨#[]⟩ (by unfold maxLen; decide) (by decide)
  have hm0 : a0.size ≤ maxLen := by unfold maxLen; omega
  have hby := nums_byte a0
  by_cases he : (mIns (nums a0) 0).e = 0
  · obtain ⟨hop, hfit, hA, hlen⟩ := mIns_ok (nums a0) hby he
    rw [nums_length] at hlen
    have hrd := fun w' (hb : Below w.heap.size w w') => read_any a0 hm0 w' (hT' w' hb) (Nat.lt_of_lt_of_le ht0 hb.size)
    generalize mIns (nums a0) 0 = M at he hop hfit hA hlen hrd
    have hN : (M.op :: besT (besV M.op) M.A M.B M.To).length = (besT (besV M.op) M.A M.B M.To).length + 1 := List.length_cons
    have hbl := besT_len _ _ _ _ hfit hA
    have hr0 := Int.emod_nonneg a1 (b := (((M.op :: besT (besV M.op) M.A M.B M.To).length : Nat) : Int)) (by omega)
    have hr1 := Int.emod_lt_of_pos a1 (b := (((M.op :: besT (besV M.op) M.A M.B M.To).length : Nat) : Int)) (by omega)
    refine again_ok a0 (by omega) a1 M.op M.A M.B ((a0.size : Int) - (M.l.length : Int)) (a1 % (((M.op :: besT (besV M.op) M.A M.B M.To).length : Nat) : Int)) M.To (M.op :: besT (besV M.op) M.A M.B M.To).length (by omega) (by omega) (by omega) hr0 hr1 w hE (fun w' hb => ?_) (fun w' o hb hli => ?_) (fun w => rest_any _ _ _ (by omega) (by omega) rfl hb1.1 hb1.2 w)
    · refine (hrd w' hb).mono ?_
      rintro r w2 ⟨b, h⟩
      rcases h with ⟨h0, _⟩ | ⟨_, v, rfl, hi⟩
      · exact absurd he h0
      · obtain ⟨o, rfl, hli⟩ := hi.li
        exact ⟨o, rfl, hli, b⟩
    · refine (write_ok M.op M.A M.B o M.To hop.1 hop.2 hfit hA w' hli (hT' w' hb) (Nat.lt_of_lt_of_le ht0 hb.size)).mono ?_
      rintro r w2 ⟨t, rfl, ht, b⟩
      have hts : t.size = (M.op :: besT (besV M.op) M.A M.B M.To).length := by rw [← ht, nums_length]
      refine ⟨t, rfl, hts, short _ ?_ ?_, b⟩
      · rw [ByteArray.size_extract]; unfold maxLen; omega
      · rw [nums_extract, List.drop_zero, Nat.sub_zero, ht]
        exact mIns_cut M.op M.A M.B M.To hfit hA _ (by omega)
  · refine again_err a0 a1 (mIns (nums a0) 0).e (by rw [beq_eq_false_iff_ne]; exact he) w hE (fun w' hb => ?_)
    refine (read_any a0 hm0 w' (hT' w' hb) (Nat.lt_of_lt_of_le ht0 hb.size)).mono ?_
    rintro r w2 ⟨b, h⟩
    rcases h with ⟨_, rfl⟩ | ⟨h0, _⟩
    · exact ⟨rfl, b⟩
    · exact absurd h0 he
end Go.Proofs.YtdbhdgkbkhjikaaDoor
