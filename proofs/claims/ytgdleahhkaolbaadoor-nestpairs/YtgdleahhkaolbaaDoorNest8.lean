/-
  The law of pairs: its small functions.
-/
import Derived.Test.YtgdleahhkaolbaaDoorNest7
namespace Go.Proofs.YtgdleahhkaolbaaDoor
open Go.RowKit

set_option maxHeartbeats 8000000 in
set_option maxRecDepth 1000000 in
theorem rest_any (n m k : Int) (_hm0 : 0 < m) (_hm1 : m ≤ 1000000) (hk : n % m = k) (_hn0 : -9223372036854775808 ≤ n) (_hn1 : n ≤ 9223372036854775807) (w : World) :
    Calls Tryd.prog 36 #[.int .i64 n, .int .i64 m] w fun e w' => e = .returned (.int .i64 k) ∧ w' = w := by
  have ht : n.tmod m = if 0 ≤ n ∨ n % m = 0 then n % m else n % m - m := by
    rw [Int.tmod_eq_emod]
    have hd : (m ∣ n) ↔ n % m = 0 := Int.dvd_iff_emod_eq_zero
    by_cases h1 : 0 ≤ n ∨ n % m = 0
    · rw [if_pos h1, if_pos (by rcases h1 with h1 | h1; exact Or.inl h1; exact Or.inr (hd.2 h1))]
      omega
    · rw [if_neg h1, if_neg (by intro h; apply h1; rcases h with h | h; exact Or.inl h; exact Or.inr (hd.1 h))]
      omega
  have h0 := Int.emod_nonneg n (b := m) (by omega)
  have h1 := Int.emod_lt_of_pos n _hm0
  rw [hk] at h0 h1 ht
  obtain ⟨t, htt⟩ : ∃ t, n.tmod m = t := ⟨_, rfl⟩
  rw [htt] at ht
  by_cases hneg : t < 0
  · have e : t + m = k := by
      split at ht <;> omega
    have e' : k = t + m := e.symm
    subst e'
    have hlo : -1000000 ≤ t := by omega
    clear ht hk h0 h1
    go_enter Tryd.func36, Tryd.ntmps36
    go_wp2
    go_ret
    exact ⟨rfl, rfl⟩
  · have e : t = k := by
      split at ht <;> omega
    subst e
    clear ht hk
    go_enter Tryd.func36, Tryd.ntmps36
    go_wp2
    go_ret
    exact ⟨rfl, rfl⟩

/-- Whether an instruction opens a block. -/
def isOb (x : Int) : Bool := x == 2 || x == 3 || x == 4
theorem isOb_iff (x : Int) : isOb x = true ↔ isO x := by
  unfold isOb isO
  simp [or_assoc]
theorem LD.cellOp {w : World} {o : Option Addr} {L : List InsD} (h : LD w o L) (i : Nat) (hi : i < L.length) : ∃ b f, o = some ⟨b, f, none⟩ ∧ w.cell? ⟨b, f + i * 4, none⟩ = some (.int .u8 (opAt L i)) := by
  rcases h.2 with h0 | ⟨b, f, e, _, hc⟩
  · rw [h0] at hi; simp at hi
  · exact ⟨b, f, e, by rw [opAt_get L i hi]; exact (hc i hi).1⟩
set_option maxHeartbeats 4000000 in
set_option maxRecDepth 1000000 in
theorem opens_any (X b f n cap i : Nat) (x : Int) (hi : i < n) (w : World) (hX : w.cell? ⟨X, 0, none⟩ = some (.slice (some ⟨b, f, none⟩) n cap)) (hc : w.cell? ⟨b, f + i * 4, none⟩ = some (.int .u8 x)) :
    Calls Tryd.prog 37 #[.int .i64 i, .pointer (some ⟨X, 0, none⟩)] w fun r w' => r = .returned (.bool (isOb x)) ∧ w' = w := by
  have h0 : (0 : Int) ≤ (i : Int) := by omega
  have h1 : (i : Int) < (n : Int) := by omega
  unfold isOb
  by_cases h2 : x = 2
  · subst h2
    go_enter Tryd.func37, Tryd.ntmps37
    go_wp2
    go_ret
    exact ⟨rfl, rfl⟩
  have e2 : (x == 2) = false := by rw [beq_eq_false_iff_ne]; exact h2
  by_cases h3 : x = 3
  · subst h3
    go_enter Tryd.func37, Tryd.ntmps37
    go_wp2
    go_ret
    exact ⟨rfl, rfl⟩
  have e3 : (x == 3) = false := by rw [beq_eq_false_iff_ne]; exact h3
  rw [e2, e3, Bool.false_or, Bool.false_or]
  clear h2 h3
  go_enter Tryd.func37, Tryd.ntmps37
  go_wp2
  go_ret
  exact ⟨rfl, rfl⟩
/-- The body that is its own end alone. -/
def endD : InsD := ⟨11, 0, 0, none, 0, 0, []⟩
theorem endD_chk : nChk [endD] = 0 := by decide +kernel
theorem nil_chk : nChk [] = 3 := by decide +kernel
theorem endD_ok (w : World) : endD.ok w := ⟨by decide, by decide, by decide, by decide, by decide, ⟨rfl, Or.inl rfl⟩, fun _ => rfl⟩
/-- The program's own Match, of whatever body. -/
theorem match_any (o : Option Addr) (cap : Nat) (L : List InsD) (w : World) (h : LD w o L) (hT : TabIn w) (ht0 : 1 < w.heap.size) (hc : nChk L = 0) :
    Calls Tryd.prog 21 #[.slice o L.length cap] w fun r w' => ∃ gE gS o2 cap2, r = .returned (.tuple #[.slice (some ⟨gE, 0, none⟩) L.length L.length, .slice (some ⟨gS, 0, none⟩) L.length L.length, .int .i64 0]) ∧ MS w w' gE gS L.length (matchOf L).1 (matchOf L).2.1 (matchOf L).2.2 o2 cap2 := by
  obtain ⟨h1, h2, _, _⟩ := nChk_ok L hc
  have hck := ncheck_any o cap L w h hT ht0
  rw [hc] at hck
  exact match_core o cap L.length L (matchOf L) rfl h1 w h h2 hck rfl
theorem match_bad (o : Option Addr) (cap : Nat) (L : List InsD) (w : World) (h : LD w o L) (hT : TabIn w) (ht0 : 1 < w.heap.size) (hc : nChk L ≠ 0) :
    Calls Tryd.prog 21 #[.slice o L.length cap] w fun r w' => r = .returned (.tuple #[.slice none 0 0, .slice none 0 0, .int .i64 (nChk L)]) ∧ Below w.heap.size w w' :=
  match_err o L.length cap (nChk L) (by rw [beq_eq_false_iff_ne]; exact hc) w (ncheck_any o cap L w h hT ht0)

end Go.Proofs.YtgdleahhkaolbaaDoor
