/-
  NestAgain: what is read of a body is written with no more bytes, and cut short it ends too early.
-/
import Derived.Test.YtmbficofcmfmlaaDoorNRd2
import Derived.Test.YtmbficofcmfmlaaDoorNWr2
import Derived.OpenShut
namespace Go.Proofs.YtmbficofcmfmlaaDoor
open Go.RowKit

set_option maxHeartbeats 8000000 in
set_option maxRecDepth 1000000 in
theorem rest_any (n m k : Int) (_hm0 : 0 < m) (_hm1 : m ≤ 1000000) (hk : n % m = k) (_hn0 : -9223372036854775808 ≤ n) (_hn1 : n ≤ 9223372036854775807) (w : World) :
    Calls Tryd.prog 24 #[.int .i64 n, .int .i64 m] w fun e w' => e = .returned (.int .i64 k) ∧ w' = w := by
  have ht : n.tmod m = if 0 ≤ n ∨ n % m = 0 then n % m else n % m - m := by
    rw [Int.tmod_eq_emod]
    have hd : (m ∣ n) ↔ n % m = 0 := Int.dvd_iff_emod_eq_zero
    by_cases h1 : 0 ≤ n ∨ n % m = 0
    · rw [if_pos h1, if_pos (by rcases h1 with h1 | h1; exact Or.inl h1; exact Or.inr (hd.2 h1))]
      omega
    · rw [if_neg h1, if_neg (by intro h; apply h1; rcases h with h | h; exact Or.inl h; exact Or.inr (hd.1 h))]
      omega
  have h0 := Int.emod_nonneg n (b := m) (by omega)
  have h1 := Int.emod_lt_of_pos n _hm0
  rw [hk] at h0 h1 ht
  obtain ⟨t, htt⟩ : ∃ t, n.tmod m = t := ⟨_, rfl⟩
  rw [htt] at ht
  by_cases hneg : t < 0
  · have e : t + m = k := by
      split at ht <;> omega
    have e' : k = t + m := e.symm
    subst e'
    have hlo : -1000000 ≤ t := by omega
    clear ht hk h0 h1
    go_enter Tryd.func24, Tryd.ntmps24
    go_wp2
    go_ret
    exact ⟨rfl, rfl⟩
  · have e : t = k := by
      split at ht <;> omega
    subst e
    clear ht hk
    go_enter Tryd.func24, Tryd.ntmps24
    go_wp2
    go_ret
    exact ⟨rfl, rfl⟩
theorem str_ne (t : ByteArray) (h : 0 < t.size) : t.toList.isEmpty = false := by
  have hd : t.toList = t.data.toList := Lib.toList_data t
  rw [hd]
  have h2 : 0 < t.data.toList.length := by rw [Array.length_toList]; exact h
  cases hh : t.data.toList with
  | nil => rw [hh] at h2; simp at h2
  | cons a b => rfl

set_option maxHeartbeats 2000000 in
set_option maxRecDepth 1000000 in
theorem nagain_err (s : ByteArray) (at_ e : Int) (_he : (e == 0) = false) (w : World) (HE : Hid (∀ w', Below w.heap.size w w' → Calls Tryd.prog 15 #[.string ⟨#[1]⟩] w' fun r w'' => r = .returned (.tuple #[.slice none 0 0, .int .i64 0, .int .i64 3]) ∧ Below w'.heap.size w' w''))
    (HS : Hid (∀ w', Below w.heap.size w w' → Calls Tryd.prog 15 #[.string s] w' fun r w'' => r = .returned (.tuple #[.slice none 0 0, .int .i64 0, .int .i64 e]) ∧ Below w'.heap.size w' w'')) :
    Calls Tryd.prog 7 #[.string s, .int .i64 at_] w fun r w' => r = .returned (.bool true) ∧ Below w.heap.size w w' := by
  have hne : (e != 0) = true := by rw [bne, _he]; rfl
  go_enter Tryd.func7, Tryd.ntmps7
  go_wp2_with fail
  refine (HE.out _ (Below.refl _ _)).mono ?_
  rintro e w1 ⟨rfl, b1⟩
  go_wp2_with fail
  refine (HS.out _ b1).mono ?_
  rintro e w3 ⟨rfl, b3⟩
  go_wp2
  go_ret
  exact ⟨rfl, b1.trans (b3.mono b1.size)⟩
set_option maxHeartbeats 4000000 in
set_option maxRecDepth 1000000 in
theorem nagain_ok (s : ByteArray) (_hs : s.size ≤ 140737488355328) (at_ k rr : Int) (N n : Nat) (_hN0 : 0 < N) (_hN : (N : Int) ≤ k) (_hk : k ≤ (s.size : Int)) (_hr0 : 0 ≤ rr) (_hr1 : rr < (N : Int)) (w : World) (HE : Hid (∀ w', Below w.heap.size w w' → Calls Tryd.prog 15 #[.string ⟨#[1]⟩] w' fun r w'' => r = .returned (.tuple #[.slice none 0 0, .int .i64 0, .int .i64 3]) ∧ Below w'.heap.size w' w''))
    (HS : Hid (∀ w', Below w.heap.size w w' → Calls Tryd.prog 15 #[.string s] w' fun r w'' => ∃ o cap, r = .returned (.tuple #[.slice o n cap, .int .i64 k, .int .i64 0]) ∧ Below w'.heap.size w' w'' ∧ Hid (Calls Tryd.prog 11 #[.slice o n cap] w'' fun r w3 => ∃ t, r = .returned (.tuple #[.string t, .int .i64 0]) ∧ t.size = N ∧ Hid (∀ w', Below w.heap.size w w' → Calls Tryd.prog 15 #[.string (t.extract 0 rr.toNat)] w' fun r w4 => r = .returned (.tuple #[.slice none 0 0, .int .i64 0, .int .i64 3]) ∧ Below w'.heap.size w' w4) ∧ Below w''.heap.size w'' w3)))
    (HRE : Hid (∀ w, Calls Tryd.prog 24 #[.int .i64 at_, .int .i64 (N : Int)] w fun e w' => e = .returned (.int .i64 rr) ∧ w' = w)) :
    Calls Tryd.prog 7 #[.string s, .int .i64 at_] w fun r w' => r = .returned (.bool true) ∧ Below w.heap.size w w' := by
  go_enter Tryd.func7, Tryd.ntmps7
  go_wp2_with fail
  refine (HE.out _ (Below.refl _ _)).mono ?_
  rintro e w1 ⟨rfl, b1⟩
  go_wp2_with fail
  refine (HS.out _ b1).mono ?_
  rintro e w3 ⟨o, cap, rfl, b3, HWR⟩
  have HB3 : Hid (Below w.heap.size w w3) := b1.trans (b3.mono b1.size)
  clear b3 b1 HS HE
  go_wp2_with fail
  refine HWR.out.mono ?_
  rintro e w4 ⟨t, rfl, ht, HX, b4⟩
  have HB4 : Hid (Below w.heap.size w w4) := HB3.out.trans (b4.mono HB3.out.size)
  clear b4 HWR HB3
  have hte : t.toList.isEmpty = false := str_ne t (by omega)
  go_wp2_with fail
  refine (HRE.out _).mono ?_
  rintro e w5 ⟨rfl, rfl⟩
  go_wp2_with fail
  refine (HX.out _ HB4.out).mono ?_
  rintro e w6 ⟨rfl, b6⟩
  go_wp2
  go_ret
  exact ⟨rfl, HB4.out.trans (b6.mono HB4.out.size)⟩
theorem nestAgain_walk (a0 : ByteArray) (a1 : Int) (z0' : a0.data.toList.length ≤ reachBytes) (w1 : (Lit.int .i64 a1).wf = true) (w : World) (hT : TabIn w) :
    Calls Tryd.prog 7 #[.string a0, .int .i64 a1] w fun r w' => r = .returned (.bool true) ∧ Below w.heap.size w w' := by
  have z0 : a0.size ≤ 140737488351232 := by
    rw [Array.length_toList] at z0'
    exact z0'
  have ht0 : 1 < w.heap.size := by
    have hc := hT 0 (by omega)
    apply Nat.lt_of_not_le
    intro hle
    have : w.heap[1]? = none := Array.getElem?_eq_none hle
    simp [World.cell?, this] at hc
  have hb1 := bounds_i64 w1
  have hT' : ∀ w', Below w.heap.size w w' → TabIn w' := fun w' hb => hT.chg (P := w.heap.size) (Chg.of_below hb) ht0 (by omega)
  have short : ∀ (t : ByteArray), t.size ≤ maxLen → (nRd 200 (nums t) []).1 = 3 → ∀ w', Below w.heap.size w w' → Calls Tryd.prog 15 #[.string t] w' fun r w'' => r = .returned (.tuple #[.slice none 0 0, .int .i64 0, .int .i64 3]) ∧ Below w'.heap.size w' w'' := by
    intro t ht he w' hb
    refine (nread_any t ht w' (hT' w' hb) (Nat.lt_of_lt_of_le ht0 hb.size)).mono ?_
    rintro r w2 ⟨b, h⟩
    rcases h with ⟨_, rfl⟩ | ⟨h0, _⟩
    · rw [he]; exact ⟨rfl, b⟩
    · rw [he] at h0; exact absurd h0 (by decide)
  have hE := short ⟨#[1]⟩ (by unfold maxLen; decide) (by decide +kernel)
  have hm0 : a0.size ≤ maxLen := by unfold maxLen; omega
  have hby := nums_byte a0
  by_cases he : (nRd 200 (nums a0) []).1 = 0
  · have heq : nRd 200 (nums a0) [] = (0, (nRd 200 (nums a0) []).2.1, (nRd 200 (nums a0) []).2.2) := Prod.ext he rfl
    obtain ⟨q1, q2, q3, q4, q5, q6, q7⟩ := nRd_ok 200 (nums a0) [] _ _ hby heq
    have hrd := fun w' (hb : Below w.heap.size w w') => nread_any a0 hm0 w' (hT' w' hb) (Nat.lt_of_lt_of_le ht0 hb.size)
    generalize nRd 200 (nums a0) [] = R at he q1 q2 q3 q4 q5 q6 q7 hrd
    obtain ⟨r1, V, rest⟩ := R
    simp only at he q1 q2 q3 q4 q5 q6 q7
    rw [nums_length] at q7
    have hN0 : 0 < (bodyT V).length := by
      cases V with
      | nil => exact absurd rfl q2
      | cons v V => unfold bodyT; rw [List.flatMap_cons, List.length_append]; simp [V4.text]; omega
    have hNB : (bodyT V).length ≤ 200200 := by
      have hall : ∀ v ∈ V, v.text.length ≤ 1001 := by
        intro v hv
        have hc : v.chk = 0 := vRun_chk V [] false q4 v hv
        have := besT_len _ _ _ _ (vchk_fit v hc).2 (q3 v hv).1
        show (v.op :: besT (besV v.op) v.A v.B v.xs).length ≤ 1001
        rw [List.length_cons]
        omega
      have := bodyT_len V hall
      omega
    have hr0 := Int.emod_nonneg a1 (b := ((bodyT V).length : Int)) (by omega)
    have hr1 := Int.emod_lt_of_pos a1 (b := ((bodyT V).length : Int)) (by omega)
    have q7' : (bodyT V).length + rest.length ≤ a0.size := q7
    refine nagain_ok a0 (by omega) a1 ((a0.size : Int) - (rest.length : Int)) (a1 % ((bodyT V).length : Int)) (bodyT V).length V.length hN0 (by omega) (by omega) hr0 hr1 w hE (fun w' hb => ?_) (fun w => rest_any _ _ _ (by omega) (by omega) rfl hb1.1 hb1.2 w)
    refine (hrd w' hb).mono ?_
    rintro r w2 ⟨b, h⟩
    rcases h with ⟨h0, _⟩ | ⟨_, o, cap, L, rfl, hIR, hLV⟩
    · exact absurd he h0
    · simp only at hLV
      subst hLV
      have hlL : (L.map InsD.val).length = L.length := by simp
      have hbw : Below w.heap.size w w2 := hb.trans (b.mono hb.size)
      refine ⟨o, cap, by rw [hlL], b, ?_⟩
      have hld := hIR.LD
      have hrun := vRun_val L [] false hld.lens
      rw [hrun] at q4 q5
      have hck : nChk L = 0 := nChk_of L (by rw [← hlL]; exact q1) q4 q5
      rw [hlL]
      refine (nwrite_any o cap L w2 hld hIR.capm.1 (hT' w2 hbw) (Nat.lt_of_lt_of_le ht0 hbw.size)).mono ?_
      rintro r w3 ⟨b3, h3⟩
      rcases h3 with ⟨h3, _⟩ | ⟨_, t, rfl, ht⟩
      · exact absurd hck h3
      · have hts : t.size = (bodyT (L.map InsD.val)).length := by rw [← ht, nums_length]
        refine ⟨t, rfl, hts, short _ ?_ ?_, b3⟩
        · rw [ByteArray.size_extract]; unfold maxLen; omega
        · rw [nums_extract, List.drop_zero, Nat.sub_zero, ht]
          have := nRd_cut (L.map InsD.val) 200 [] (a1 % ((bodyT (L.map InsD.val)).length : Int)).toNat q1 (fun v hv => (q3 v hv).1) (by rw [hrun]; exact q4) (by show _ < (bodyT (L.map InsD.val)).length; omega)
          have h2 : nRd 200 ((bodyT (L.map InsD.val)).take (a1 % ((bodyT (L.map InsD.val)).length : Int)).toNat) [] = (3, [], []) := this
          rw [h2]
  · refine nagain_err a0 a1 (nRd 200 (nums a0) []).1 (by rw [beq_eq_false_iff_ne]; exact he) w hE (fun w' hb => ?_)
    refine (nread_any a0 hm0 w' (hT' w' hb) (Nat.lt_of_lt_of_le ht0 hb.size)).mono ?_
    rintro r w2 ⟨b, h⟩
    rcases h with ⟨_, rfl⟩ | ⟨h0, _⟩
    · exact ⟨rfl, b⟩
    · exact absurd h0 he
end Go.Proofs.YtmbficofcmfmlaaDoor
