/-
  What the document's own InsWrite answers is what the program's own Write answers.
-/
import Derived.Test.YtgdleahhkaolbaaDoorRWr
import Derived.Test.YtgdleahhkaolbaaDoorRChk2
import Derived.Test.YtgdleahhkaolbaaDoorInsV3
namespace Go.Proofs.YtgdleahhkaolbaaDoor
open Go.RowKit

theorem nums_inj {a b : ByteArray} (h : nums a = nums b) : a = b := by
  unfold nums at h
  have h2 : a.data.toList = b.data.toList := (List.map_inj_right (fun x y hxy => UInt8.toNat_inj.1 (by omega))).1 h
  exact ByteArray.ext (Array.toList_inj.1 h2)
theorem str_of_nums {t : ByteArray} {L : List Int} (h : nums t = L) : t = strOfNums L := by
  subst h
  have h1 : nums (strOfNums (nums t)) = nums t := nums_str (nums_byte t)
  exact (nums_inj h1).symm
theorem flat_letF (k A B : Int) (xs : List Int) (h1 : 1 ≤ k) (h9 : k ≤ 9) : (nums (letF k)).flatMap (wLet A B xs) = besT k A B xs := by
  rw [nums_letF]
  rcases (show k = 1 ∨ k = 2 ∨ k = 3 ∨ k = 4 ∨ k = 5 ∨ k = 6 ∨ k = 7 ∨ k = 8 ∨ k = 9 by omega) with rfl | rfl | rfl | rfl | rfl | rfl | rfl | rfl | rfl
  all_goals simp [wLet, besT]
theorem ask_letF (k A B : Int) (n : Nat) (xs : List Int) (hc : fitC k A B xs) (hl : xs.length = n) : ∀ pos (h : pos < (letF k).size), wAsk A B n xs ((letF k)[pos]'h).toNat := by
  have one : ∀ (c : UInt8), wAsk A B n xs c.toNat → ∀ pos (h : pos < (⟨#[c]⟩ : ByteArray).size), wAsk A B n xs ((⟨#[c]⟩ : ByteArray)[pos]'h).toNat := by
    intro c hc pos h
    have h1 : (⟨#[c]⟩ : ByteArray).size = 1 := rfl
    obtain rfl : pos = 0 := by omega
    exact hc
  have two : ∀ (c d : UInt8), wAsk A B n xs c.toNat → wAsk A B n xs d.toNat → ∀ pos (h : pos < (⟨#[c, d]⟩ : ByteArray).size), wAsk A B n xs ((⟨#[c, d]⟩ : ByteArray)[pos]'h).toNat := by
    intro c d hc hd pos h
    have h1 : (⟨#[c, d]⟩ : ByteArray).size = 2 := rfl
    rcases (show pos = 0 ∨ pos = 1 by omega) with rfl | rfl
    · exact hc
    · exact hd
  unfold fitC at hc
  rcases hc with ⟨rfl, _⟩ | ⟨rfl, hk, _⟩ | ⟨rfl, hn, _⟩ | ⟨rfl, hn, _, hx, hall⟩ | ⟨rfl, hn, _⟩ | ⟨rfl, hn, hm, _⟩ | ⟨rfl, _⟩ | ⟨rfl, _⟩ | ⟨rfl, _⟩
  · intro pos h
    have h1 : (letF 1).size = 0 := rfl
    omega
  · exact one 107 (Or.inl ⟨rfl, isKB_range hk⟩)
  · exact one 97 (Or.inr (Or.inl ⟨rfl, hn⟩))
  · exact one 116 (Or.inr (Or.inr (Or.inr (Or.inr (Or.inr (Or.inr ⟨rfl, by omega, hn, hall⟩))))))
  · exact two 97 122 (Or.inr (Or.inl ⟨rfl, hn⟩)) (Or.inr (Or.inr (Or.inr (Or.inl rfl))))
  · exact two 97 98 (Or.inr (Or.inl ⟨rfl, hn⟩)) (Or.inr (Or.inr (Or.inl ⟨rfl, hm⟩)))
  · exact one 122 (Or.inr (Or.inr (Or.inr (Or.inl rfl))))
  · exact one 99 (Or.inr (Or.inr (Or.inr (Or.inr (Or.inl rfl)))))
  · exact one 100 (Or.inr (Or.inr (Or.inr (Or.inr (Or.inr (Or.inl rfl))))))
theorem letF_size (k : Int) : (letF k).size ≤ 2 := by
  unfold letF
  repeat' split
  all_goals decide
/-- What both write: the text and the error. -/
def wrT (op A B : Int) (n : Nat) (xs : List Int) : ByteArray := if chkV op A B n xs = 0 then strOfNums (op :: besT (besV op) A B xs) else ⟨#[]⟩
theorem chk_fit (op A B : Int) (n : Nat) (xs : List Int) (hl : xs.length = n) (h : chkV op A B n xs = 0) : n ≤ 16 ∧ fitC (besV op) A B xs ∧ 1 ≤ besV op := by
  have hrg := besV_range op
  unfold chkV at h
  split at h
  · omega
  · split at h
    · omega
    · split at h
      · rename_i h1 h2 h3
        exact ⟨by omega, fitB_fit (besV op) A B n xs (by omega) hrg.2 hl (by omega) h3, by omega⟩
      · omega
/-- The program's own Write. -/
theorem pwrite_any (op A B : Int) (o : Option Addr) (n cap : Nat) (xs : List Int) (h0 : 0 ≤ op) (h1 : op ≤ 255) (hA : -9223372036854775808 ≤ A ∧ A ≤ 9223372036854775807) (hcap : n ≤ cap) (hm : n ≤ 9223372036854775807) (w : World) (h : LJ w o n xs) (hT : TabIn w) (ht0 : 1 < w.heap.size) :
    Calls Tryd.prog 9 #[.agg #[.int .u8 op, .int .i64 A, .int .i64 B, .slice o n cap]] w fun r w' => r = .returned (.tuple #[.string (wrT op A B n xs), .int .i64 (chkV op A B n xs)]) ∧ Below w.heap.size w w' := by
  unfold wrT
  by_cases hc : chkV op A B n xs = 0
  · obtain ⟨_, hf, _⟩ := chk_fit op A B n xs h.1 hc
    rw [if_pos hc, hc]
    refine (vwrite_ok op A B o n cap xs hcap h0 h1 hf hc hm hA w h hT ht0).mono ?_
    rintro r w' ⟨t, rfl, ht, b⟩
    rw [str_of_nums ht]
    exact ⟨rfl, b⟩
  · rw [if_neg hc]
    exact vwrite_err op A B _ o n cap (by rw [beq_eq_false_iff_ne]; exact hc) w (fun w' b => check_any op A B o n cap xs h0 h1 hcap hm w' (h.below b) (hT.chg (P := w.heap.size) (Chg.of_below b) ht0 (by omega)) (Nat.lt_of_lt_of_le ht0 b.size))
/-- The document's own InsWrite. -/
theorem rwrite_any (op A B : Int) (o : Option Addr) (n cap : Nat) (xs : List Int) (h0 : 0 ≤ op) (h1 : op ≤ 255) (hA : -9223372036854775808 ≤ A ∧ A ≤ 9223372036854775807) (hcap : n ≤ cap) (hnil : o = none → cap = 0) (w : World) (h : LJ w o n xs) (hM : MaxIn w) :
    Calls Tryd.prog 10 #[.agg #[.int .u8 op, .int .i64 A, .int .i64 B, .slice o n cap]] w fun r w' => r = .returned (.tuple #[.string (wrT op A B n xs), .int .i64 (chkV op A B n xs)]) ∧ Below w.heap.size w w' := by
  have hck : ∀ w', Below w.heap.size w w' → Calls Tryd.prog 17 #[.agg #[.int .u8 op, .int .i64 A, .int .i64 B, .slice o n cap]] w' fun r w'' => r = .returned (.int .i64 (chkV op A B n xs)) ∧ Below w'.heap.size w' w'' := fun w' b => rcheck_any op A B o n cap xs h0 h1 hcap w' (h.below b) (hM.below b)
  have hbes : ∀ w', Below w.heap.size w w' → Calls Tryd.prog 41 #[.int .u8 op] w' fun e w'' => e = .returned (.string (letF (besV op))) ∧ Below w'.heap.size w' w'' := fun w' b => by
    obtain ⟨k, rfl⟩ : ∃ k : Nat, op = (k : Int) := ⟨op.toNat, by omega⟩
    rw [← bes_letF k (by omega)]
    exact rbeside_any k (by omega) w' (hM.below b)
  unfold wrT
  by_cases hc : chkV op A B n xs = 0
  · obtain ⟨_, hf, hk1⟩ := chk_fit op A B n xs h.1 hc
    rw [hc] at hck
    rw [if_pos hc, hc]
    refine (rwrite_core op A B o n cap xs (letF (besV op)) (besT (besV op) A B xs) h0 h1 hA (letF_size _) hnil w h hck hbes (ask_letF _ A B n xs hf h.1) (flat_letF _ A B xs hk1 (besV_range op).2)).mono ?_
    rintro r w' ⟨t, rfl, ht, b⟩
    rw [str_of_nums ht]
    exact ⟨rfl, b⟩
  · rw [if_neg hc]
    exact rwrite_err op A B _ o n cap (by rw [beq_eq_false_iff_ne]; exact hc) w hck

end Go.Proofs.YtgdleahhkaolbaaDoor
