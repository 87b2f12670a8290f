/-
  What the program's own plainPlace and Plain do.
-/
import Derived.Test.YtdbhdgkbkhjikaaDoorIns2
import Derived.Laws.EntriesVeiled
import Derived.OwnWalk
namespace Go.Proofs.YtdbhdgkbkhjikaaDoor
open Go.RowKit

/-- A value that is a list of kinds, in new memory. -/
def IsK (w : World) (B : Nat) (v : Value) (ks : List Int) : Prop :=
  (ks = [] ∧ v = .slice none 0 0) ∨ (0 < ks.length ∧ ∃ g, v = .slice (some ⟨g, 0, none⟩) ks.length ks.length ∧ B ≤ g ∧ g < w.heap.size ∧ ∀ i, i < ks.length → w.cell? ⟨g, i, none⟩ = some (.int .u8 (ks.getD i 0)))
theorem isK_nil (w : World) (B : Nat) : IsK w B (.slice none 0 0) [] := Or.inl ⟨rfl, rfl⟩
theorem isK_one (w : World) (B g : Nat) (a : Int) (hB : B ≤ g) (hg : g < w.heap.size) (h : w.cell? ⟨g, 0, none⟩ = some (.int .u8 a)) : IsK w B (.slice (some ⟨g, 0, none⟩) 1 1) [a] :=
  Or.inr ⟨by simp, g, rfl, hB, hg, fun i hi => by
    have : i = 0 := by simp at hi; omega
    subst this; exact h⟩
theorem isK_two (w : World) (B g : Nat) (a b : Int) (hB : B ≤ g) (hg : g < w.heap.size) (h : w.cell? ⟨g, 0, none⟩ = some (.int .u8 a)) (h' : w.cell? ⟨g, 1, none⟩ = some (.int .u8 b)) : IsK w B (.slice (some ⟨g, 0, none⟩) 2 2) [a, b] :=
  Or.inr ⟨by simp, g, rfl, hB, hg, fun i hi => by
    have : i = 0 ∨ i = 1 := by simp at hi; omega
    rcases this with rfl | rfl
    · exact h
    · exact h'⟩
theorem IsK.below {w w' : World} {B C : Nat} {v : Value} {ks : List Int} (h : IsK w B v ks) (hC : w.heap.size ≤ C) (hb : Below C w w') : IsK w' B v ks := by
  rcases h with h | ⟨h0, g, h1, h2, h3, h4⟩
  · exact Or.inl h
  · refine Or.inr ⟨h0, g, h1, h2, Nat.lt_of_lt_of_le h3 hb.size, fun i hi => ?_⟩
    rw [hb.cell (p := ⟨g, i, none⟩) (by simp only; omega)]
    exact h4 i hi
/-- The kind of what a load or a store moves. -/
def kMem (op : Int) : Int := if op = 40 ∨ op = 44 ∨ op = 45 ∨ op = 46 ∨ op = 47 ∨ op = 54 ∨ op = 58 ∨ op = 59 then 127 else 126
set_option maxHeartbeats 1000000 in
set_option maxRecDepth 1000000 in
theorem place_44 (w : World) : Calls Tryd.prog 29 #[.int .u8 44] w fun e w' => e = .returned (.tuple #[.slice (some ⟨w.heap.size, 0, none⟩) 1 1, .slice (some ⟨w.heap.size + 1, 0, none⟩) 1 1, .bool true]) ∧ w' = (w.alloc (.cells #[.int .u8 127] 32)).alloc (.cells #[.int .u8 127] 32) := by
  go_enter Tryd.func29, Tryd.ntmps29
  go_wp2
  go_ret3
  exact ⟨rfl, rfl⟩
set_option maxHeartbeats 1000000 in
set_option maxRecDepth 1000000 in
theorem place_45 (w : World) : Calls Tryd.prog 29 #[.int .u8 45] w fun e w' => e = .returned (.tuple #[.slice (some ⟨w.heap.size, 0, none⟩) 1 1, .slice (some ⟨w.heap.size + 1, 0, none⟩) 1 1, .bool true]) ∧ w' = (w.alloc (.cells #[.int .u8 127] 32)).alloc (.cells #[.int .u8 127] 32) := by
  go_enter Tryd.func29, Tryd.ntmps29
  go_wp2
  go_ret3
  exact ⟨rfl, rfl⟩
set_option maxHeartbeats 1000000 in
set_option maxRecDepth 1000000 in
theorem place_48 (w : World) : Calls Tryd.prog 29 #[.int .u8 48] w fun e w' => e = .returned (.tuple #[.slice (some ⟨w.heap.size, 0, none⟩) 1 1, .slice (some ⟨w.heap.size + 1, 0, none⟩) 1 1, .bool true]) ∧ w' = (w.alloc (.cells #[.int .u8 127] 32)).alloc (.cells #[.int .u8 126] 32) := by
  go_enter Tryd.func29, Tryd.ntmps29
  go_wp2
  go_ret3
  exact ⟨rfl, rfl⟩
set_option maxHeartbeats 1000000 in
set_option maxRecDepth 1000000 in
theorem place_49 (w : World) : Calls Tryd.prog 29 #[.int .u8 49] w fun e w' => e = .returned (.tuple #[.slice (some ⟨w.heap.size, 0, none⟩) 1 1, .slice (some ⟨w.heap.size + 1, 0, none⟩) 1 1, .bool true]) ∧ w' = (w.alloc (.cells #[.int .u8 127] 32)).alloc (.cells #[.int .u8 126] 32) := by
  go_enter Tryd.func29, Tryd.ntmps29
  go_wp2
  go_ret3
  exact ⟨rfl, rfl⟩
set_option maxHeartbeats 1000000 in
set_option maxRecDepth 1000000 in
theorem place_58 (w : World) : Calls Tryd.prog 29 #[.int .u8 58] w fun e w' => e = .returned (.tuple #[.slice (some ⟨w.heap.size, 0, none⟩) 2 2, .slice none 0 0, .bool true]) ∧ w' = w.alloc (.cells #[.int .u8 127, .int .u8 127] 32) := by
  go_enter Tryd.func29, Tryd.ntmps29
  go_wp2
  go_ret3
  exact ⟨rfl, rfl⟩
set_option maxHeartbeats 1000000 in
set_option maxRecDepth 1000000 in
theorem place_60 (w : World) : Calls Tryd.prog 29 #[.int .u8 60] w fun e w' => e = .returned (.tuple #[.slice (some ⟨w.heap.size, 0, none⟩) 2 2, .slice none 0 0, .bool true]) ∧ w' = w.alloc (.cells #[.int .u8 127, .int .u8 126] 32) := by
  go_enter Tryd.func29, Tryd.ntmps29
  go_wp2
  go_ret3
  exact ⟨rfl, rfl⟩
set_option maxHeartbeats 1000000 in
set_option maxRecDepth 1000000 in
theorem place_46 (w : World) : Calls Tryd.prog 29 #[.int .u8 46] w fun e w' => e = .returned (.tuple #[.slice (some ⟨w.heap.size, 0, none⟩) 1 1, .slice (some ⟨w.heap.size + 1, 0, none⟩) 1 1, .bool true]) ∧ w' = (w.alloc (.cells #[.int .u8 127] 32)).alloc (.cells #[.int .u8 127] 32) := by
  go_enter Tryd.func29, Tryd.ntmps29
  go_wp2
  go_ret3
  exact ⟨rfl, rfl⟩
set_option maxHeartbeats 1000000 in
set_option maxRecDepth 1000000 in
theorem place_47 (w : World) : Calls Tryd.prog 29 #[.int .u8 47] w fun e w' => e = .returned (.tuple #[.slice (some ⟨w.heap.size, 0, none⟩) 1 1, .slice (some ⟨w.heap.size + 1, 0, none⟩) 1 1, .bool true]) ∧ w' = (w.alloc (.cells #[.int .u8 127] 32)).alloc (.cells #[.int .u8 127] 32) := by
  go_enter Tryd.func29, Tryd.ntmps29
  go_wp2
  go_ret3
  exact ⟨rfl, rfl⟩
set_option maxHeartbeats 1000000 in
set_option maxRecDepth 1000000 in
theorem place_50 (w : World) : Calls Tryd.prog 29 #[.int .u8 50] w fun e w' => e = .returned (.tuple #[.slice (some ⟨w.heap.size, 0, none⟩) 1 1, .slice (some ⟨w.heap.size + 1, 0, none⟩) 1 1, .bool true]) ∧ w' = (w.alloc (.cells #[.int .u8 127] 32)).alloc (.cells #[.int .u8 126] 32) := by
  go_enter Tryd.func29, Tryd.ntmps29
  go_wp2
  go_ret3
  exact ⟨rfl, rfl⟩
set_option maxHeartbeats 1000000 in
set_option maxRecDepth 1000000 in
theorem place_51 (w : World) : Calls Tryd.prog 29 #[.int .u8 51] w fun e w' => e = .returned (.tuple #[.slice (some ⟨w.heap.size, 0, none⟩) 1 1, .slice (some ⟨w.heap.size + 1, 0, none⟩) 1 1, .bool true]) ∧ w' = (w.alloc (.cells #[.int .u8 127] 32)).alloc (.cells #[.int .u8 126] 32) := by
  go_enter Tryd.func29, Tryd.ntmps29
  go_wp2
  go_ret3
  exact ⟨rfl, rfl⟩
set_option maxHeartbeats 1000000 in
set_option maxRecDepth 1000000 in
theorem place_59 (w : World) : Calls Tryd.prog 29 #[.int .u8 59] w fun e w' => e = .returned (.tuple #[.slice (some ⟨w.heap.size, 0, none⟩) 2 2, .slice none 0 0, .bool true]) ∧ w' = w.alloc (.cells #[.int .u8 127, .int .u8 127] 32) := by
  go_enter Tryd.func29, Tryd.ntmps29
  go_wp2
  go_ret3
  exact ⟨rfl, rfl⟩
set_option maxHeartbeats 1000000 in
set_option maxRecDepth 1000000 in
theorem place_61 (w : World) : Calls Tryd.prog 29 #[.int .u8 61] w fun e w' => e = .returned (.tuple #[.slice (some ⟨w.heap.size, 0, none⟩) 2 2, .slice none 0 0, .bool true]) ∧ w' = w.alloc (.cells #[.int .u8 127, .int .u8 126] 32) := by
  go_enter Tryd.func29, Tryd.ntmps29
  go_wp2
  go_ret3
  exact ⟨rfl, rfl⟩
set_option maxHeartbeats 1000000 in
set_option maxRecDepth 1000000 in
theorem place_40 (w : World) : Calls Tryd.prog 29 #[.int .u8 40] w fun e w' => e = .returned (.tuple #[.slice (some ⟨w.heap.size, 0, none⟩) 1 1, .slice (some ⟨w.heap.size + 1, 0, none⟩) 1 1, .bool true]) ∧ w' = (w.alloc (.cells #[.int .u8 127] 32)).alloc (.cells #[.int .u8 127] 32) := by
  go_enter Tryd.func29, Tryd.ntmps29
  go_wp2
  go_ret3
  exact ⟨rfl, rfl⟩
set_option maxHeartbeats 1000000 in
set_option maxRecDepth 1000000 in
theorem place_52 (w : World) : Calls Tryd.prog 29 #[.int .u8 52] w fun e w' => e = .returned (.tuple #[.slice (some ⟨w.heap.size, 0, none⟩) 1 1, .slice (some ⟨w.heap.size + 1, 0, none⟩) 1 1, .bool true]) ∧ w' = (w.alloc (.cells #[.int .u8 127] 32)).alloc (.cells #[.int .u8 126] 32) := by
  go_enter Tryd.func29, Tryd.ntmps29
  go_wp2
  go_ret3
  exact ⟨rfl, rfl⟩
set_option maxHeartbeats 1000000 in
set_option maxRecDepth 1000000 in
theorem place_53 (w : World) : Calls Tryd.prog 29 #[.int .u8 53] w fun e w' => e = .returned (.tuple #[.slice (some ⟨w.heap.size, 0, none⟩) 1 1, .slice (some ⟨w.heap.size + 1, 0, none⟩) 1 1, .bool true]) ∧ w' = (w.alloc (.cells #[.int .u8 127] 32)).alloc (.cells #[.int .u8 126] 32) := by
  go_enter Tryd.func29, Tryd.ntmps29
  go_wp2
  go_ret3
  exact ⟨rfl, rfl⟩
set_option maxHeartbeats 1000000 in
set_option maxRecDepth 1000000 in
theorem place_54 (w : World) : Calls Tryd.prog 29 #[.int .u8 54] w fun e w' => e = .returned (.tuple #[.slice (some ⟨w.heap.size, 0, none⟩) 2 2, .slice none 0 0, .bool true]) ∧ w' = w.alloc (.cells #[.int .u8 127, .int .u8 127] 32) := by
  go_enter Tryd.func29, Tryd.ntmps29
  go_wp2
  go_ret3
  exact ⟨rfl, rfl⟩
set_option maxHeartbeats 1000000 in
set_option maxRecDepth 1000000 in
theorem place_62 (w : World) : Calls Tryd.prog 29 #[.int .u8 62] w fun e w' => e = .returned (.tuple #[.slice (some ⟨w.heap.size, 0, none⟩) 2 2, .slice none 0 0, .bool true]) ∧ w' = w.alloc (.cells #[.int .u8 127, .int .u8 126] 32) := by
  go_enter Tryd.func29, Tryd.ntmps29
  go_wp2
  go_ret3
  exact ⟨rfl, rfl⟩
set_option maxHeartbeats 1000000 in
set_option maxRecDepth 1000000 in
theorem place_41 (w : World) : Calls Tryd.prog 29 #[.int .u8 41] w fun e w' => e = .returned (.tuple #[.slice (some ⟨w.heap.size, 0, none⟩) 1 1, .slice (some ⟨w.heap.size + 1, 0, none⟩) 1 1, .bool true]) ∧ w' = (w.alloc (.cells #[.int .u8 127] 32)).alloc (.cells #[.int .u8 126] 32) := by
  go_enter Tryd.func29, Tryd.ntmps29
  go_wp2
  go_ret3
  exact ⟨rfl, rfl⟩
set_option maxHeartbeats 1000000 in
set_option maxRecDepth 1000000 in
theorem place_55 (w : World) : Calls Tryd.prog 29 #[.int .u8 55] w fun e w' => e = .returned (.tuple #[.slice (some ⟨w.heap.size, 0, none⟩) 2 2, .slice none 0 0, .bool true]) ∧ w' = w.alloc (.cells #[.int .u8 127, .int .u8 126] 32) := by
  go_enter Tryd.func29, Tryd.ntmps29
  go_wp2
  go_ret3
  exact ⟨rfl, rfl⟩
theorem place_load (op : Int) (h : 0 < insW op) (h54 : op < 54) (w : World) : Calls Tryd.prog 29 #[.int .u8 op] w fun e w' => e = .returned (.tuple #[.slice (some ⟨w.heap.size, 0, none⟩) 1 1, .slice (some ⟨w.heap.size + 1, 0, none⟩) 1 1, .bool true]) ∧ w' = (w.alloc (.cells #[.int .u8 127] 32)).alloc (.cells #[.int .u8 (kMem op)] 32) := by
  by_cases h44 : op = 44
  · subst h44; exact place_44 w
  by_cases h45 : op = 45
  · subst h45; exact place_45 w
  by_cases h48 : op = 48
  · subst h48; exact place_48 w
  by_cases h49 : op = 49
  · subst h49; exact place_49 w
  by_cases h46 : op = 46
  · subst h46; exact place_46 w
  by_cases h47 : op = 47
  · subst h47; exact place_47 w
  by_cases h50 : op = 50
  · subst h50; exact place_50 w
  by_cases h51 : op = 51
  · subst h51; exact place_51 w
  by_cases h40 : op = 40
  · subst h40; exact place_40 w
  by_cases h52 : op = 52
  · subst h52; exact place_52 w
  by_cases h53 : op = 53
  · subst h53; exact place_53 w
  by_cases h41 : op = 41
  · subst h41; exact place_41 w
  exfalso
  unfold insW at h
  rw [if_neg (by omega), if_neg (by omega), if_neg (by omega), if_neg (by omega)] at h
  omega
theorem place_store (op : Int) (h : 0 < insW op) (h54 : ¬ op < 54) (w : World) : Calls Tryd.prog 29 #[.int .u8 op] w fun e w' => e = .returned (.tuple #[.slice (some ⟨w.heap.size, 0, none⟩) 2 2, .slice none 0 0, .bool true]) ∧ w' = w.alloc (.cells #[.int .u8 127, .int .u8 (kMem op)] 32) := by
  by_cases h58 : op = 58
  · subst h58; exact place_58 w
  by_cases h60 : op = 60
  · subst h60; exact place_60 w
  by_cases h59 : op = 59
  · subst h59; exact place_59 w
  by_cases h61 : op = 61
  · subst h61; exact place_61 w
  by_cases h54 : op = 54
  · subst h54; exact place_54 w
  by_cases h62 : op = 62
  · subst h62; exact place_62 w
  by_cases h55 : op = 55
  · subst h55; exact place_55 w
  exfalso
  unfold insW at h
  rw [if_neg (by omega), if_neg (by omega), if_neg (by omega), if_neg (by omega)] at h
  omega
/-- What an instruction takes. -/
def pIn (op : Int) : List Int := if op = 63 ∨ op = 65 ∨ op = 66 then [] else if op = 64 then [127] else if 0 < insW op then (if op < 54 then [127] else [127, kMem op]) else if insN op = 1 then [kTake op] else if insN op = 2 then [kTake op, kTake op] else []
/-- What it gives. -/
def pOut (op : Int) : List Int := if op = 63 ∨ op = 65 then [127] else if op = 66 then [126] else if op = 64 then [127] else if 0 < insW op then (if op < 54 then [kMem op] else []) else if insN op = 1 then [kGive op] else if insN op = 2 then [kGive op] else []
/-- Whether that hangs on nothing but its number. -/
def pIs (op : Int) : Bool := decide (63 ≤ op ∧ op ≤ 66) || decide (0 < insW op) || decide (insN op = 1) || decide (insN op = 2)
set_option maxHeartbeats 1000000 in
set_option maxRecDepth 1000000 in
theorem plain_63 (w : World) : Calls Tryd.prog 10 #[.int .u8 63] w fun e w' => ∃ v1 v2, e = .returned (.tuple #[v1, v2, .bool true]) ∧ IsK w' w.heap.size v1 [] ∧ IsK w' w.heap.size v2 [127] ∧ Below w.heap.size w w' := by
  go_enter Tryd.func10, Tryd.ntmps10
  go_wp2
  go_ret3
  exact ⟨_, _, rfl, isK_nil _ _, isK_one _ _ _ _ (Nat.le_refl _) (by simp) (by simp), (Below.refl _ _).alloc (Nat.le_refl _) _⟩
set_option maxHeartbeats 1000000 in
set_option maxRecDepth 1000000 in
theorem plain_65 (w : World) : Calls Tryd.prog 10 #[.int .u8 65] w fun e w' => ∃ v1 v2, e = .returned (.tuple #[v1, v2, .bool true]) ∧ IsK w' w.heap.size v1 [] ∧ IsK w' w.heap.size v2 [127] ∧ Below w.heap.size w w' := by
  go_enter Tryd.func10, Tryd.ntmps10
  go_wp2
  go_ret3
  exact ⟨_, _, rfl, isK_nil _ _, isK_one _ _ _ _ (Nat.le_refl _) (by simp) (by simp), (Below.refl _ _).alloc (Nat.le_refl _) _⟩
set_option maxHeartbeats 1000000 in
set_option maxRecDepth 1000000 in
theorem plain_66 (w : World) : Calls Tryd.prog 10 #[.int .u8 66] w fun e w' => ∃ v1 v2, e = .returned (.tuple #[v1, v2, .bool true]) ∧ IsK w' w.heap.size v1 [] ∧ IsK w' w.heap.size v2 [126] ∧ Below w.heap.size w w' := by
  go_enter Tryd.func10, Tryd.ntmps10
  go_wp2
  go_ret3
  exact ⟨_, _, rfl, isK_nil _ _, isK_one _ _ _ _ (Nat.le_refl _) (by simp) (by simp), (Below.refl _ _).alloc (Nat.le_refl _) _⟩
set_option maxHeartbeats 1000000 in
set_option maxRecDepth 1000000 in
theorem plain_64 (w : World) : Calls Tryd.prog 10 #[.int .u8 64] w fun e w' => ∃ v1 v2, e = .returned (.tuple #[v1, v2, .bool true]) ∧ IsK w' w.heap.size v1 [127] ∧ IsK w' w.heap.size v2 [127] ∧ Below w.heap.size w w' := by
  go_enter Tryd.func10, Tryd.ntmps10
  go_wp2
  go_ret3
  exact ⟨_, _, rfl, isK_one _ _ _ _ (Nat.le_refl _) (by simp; omega) (by simp), isK_one _ _ _ _ (by omega) (by simp) (by simp), ((Below.refl _ _).alloc (Nat.le_refl _) _).alloc (by simp) _⟩
set_option maxHeartbeats 1000000 in
set_option maxRecDepth 1000000 in
theorem plain_place (op wv : Int) (_h63 : (op == 63) = false) (_h65 : (op == 65) = false) (_h66 : (op == 66) = false) (_h64 : (op == 64) = false) (_hw : 0 < wv) (v1 v2 : Value) (w : World) (R : World → Prop) (HW : Hid (∀ w, Calls Tryd.prog 13 #[.int .u8 op] w fun e w' => e = .returned (.int .i64 wv) ∧ w' = w)) (HP : Hid (Calls Tryd.prog 29 #[.int .u8 op] w fun e w' => e = .returned (.tuple #[v1, v2, .bool true]) ∧ R w')) :
    Calls Tryd.prog 10 #[.int .u8 op] w fun e w' => e = .returned (.tuple #[v1, v2, .bool true]) ∧ R w' := by
  go_enter Tryd.func10, Tryd.ntmps10
  go_wp2_with fail
  refine (HW.out _).mono ?_
  rintro e w1 ⟨rfl, rfl⟩
  go_wp2_with fail
  refine HP.out.mono ?_
  rintro e w1 ⟨rfl, hr⟩
  go_wp2
  go_ret3
  exact ⟨rfl, hr⟩
set_option maxHeartbeats 1000000 in
set_option maxRecDepth 1000000 in
theorem plain_one (op t g : Int) (_h63 : (op == 63) = false) (_h65 : (op == 65) = false) (_h66 : (op == 66) = false) (_h64 : (op == 64) = false) (w : World) (HW : Hid (∀ w, Calls Tryd.prog 13 #[.int .u8 op] w fun e w' => e = .returned (.int .i64 0) ∧ w' = w)) (HK : Hid (∀ w, Calls Tryd.prog 30 #[.int .u8 op] w fun e w' => e = .returned (.tuple #[.int .u8 t, .int .u8 g]) ∧ w' = w)) (HN : Hid (Calls Tryd.prog 31 #[.int .u8 op] w fun e w' => e = .returned (.int .i64 1) ∧ Below w.heap.size w w')) :
    Calls Tryd.prog 10 #[.int .u8 op] w fun e w' => ∃ v1 v2, e = .returned (.tuple #[v1, v2, .bool true]) ∧ IsK w' w.heap.size v1 [t] ∧ IsK w' w.heap.size v2 [g] ∧ Below w.heap.size w w' := by
  go_enter Tryd.func10, Tryd.ntmps10
  go_wp2_with fail
  refine (HW.out _).mono ?_
  rintro e w1 ⟨rfl, rfl⟩
  go_wp2_with fail
  refine (HK.out _).mono ?_
  rintro e w1 ⟨rfl, rfl⟩
  go_wp2_with fail
  refine HN.out.mono ?_
  rintro e w2 ⟨rfl, b1⟩
  go_wp2
  go_ret3
  exact ⟨_, _, rfl, isK_one _ _ _ _ b1.size (by simp; omega) (by simp), isK_one _ _ _ _ (by have := b1.size; omega) (by simp) (by simp), (b1.alloc b1.size _).alloc (by have := b1.size; simp; omega) _⟩
set_option maxHeartbeats 1000000 in
set_option maxRecDepth 1000000 in
theorem plain_two (op t g : Int) (_h63 : (op == 63) = false) (_h65 : (op == 65) = false) (_h66 : (op == 66) = false) (_h64 : (op == 64) = false) (w : World) (HW : Hid (∀ w, Calls Tryd.prog 13 #[.int .u8 op] w fun e w' => e = .returned (.int .i64 0) ∧ w' = w)) (HK : Hid (∀ w, Calls Tryd.prog 30 #[.int .u8 op] w fun e w' => e = .returned (.tuple #[.int .u8 t, .int .u8 g]) ∧ w' = w)) (HN : Hid (Calls Tryd.prog 31 #[.int .u8 op] w fun e w' => e = .returned (.int .i64 2) ∧ Below w.heap.size w w')) :
    Calls Tryd.prog 10 #[.int .u8 op] w fun e w' => ∃ v1 v2, e = .returned (.tuple #[v1, v2, .bool true]) ∧ IsK w' w.heap.size v1 [t, t] ∧ IsK w' w.heap.size v2 [g] ∧ Below w.heap.size w w' := by
  go_enter Tryd.func10, Tryd.ntmps10
  go_wp2_with fail
  refine (HW.out _).mono ?_
  rintro e w1 ⟨rfl, rfl⟩
  go_wp2_with fail
  refine (HK.out _).mono ?_
  rintro e w1 ⟨rfl, rfl⟩
  go_wp2_with fail
  refine HN.out.mono ?_
  rintro e w2 ⟨rfl, b1⟩
  go_wp2
  go_ret3
  exact ⟨_, _, rfl, isK_two _ _ _ _ _ b1.size (by simp; omega) (by simp) (by simp), isK_one _ _ _ _ (by have := b1.size; omega) (by simp) (by simp), (b1.alloc b1.size _).alloc (by have := b1.size; simp; omega) _⟩
set_option maxHeartbeats 1000000 in
set_option maxRecDepth 1000000 in
theorem plain_no (op t g : Int) (_h63 : (op == 63) = false) (_h65 : (op == 65) = false) (_h66 : (op == 66) = false) (_h64 : (op == 64) = false) (w : World) (HW : Hid (∀ w, Calls Tryd.prog 13 #[.int .u8 op] w fun e w' => e = .returned (.int .i64 0) ∧ w' = w)) (HK : Hid (∀ w, Calls Tryd.prog 30 #[.int .u8 op] w fun e w' => e = .returned (.tuple #[.int .u8 t, .int .u8 g]) ∧ w' = w)) (HN : Hid (Calls Tryd.prog 31 #[.int .u8 op] w fun e w' => e = .returned (.int .i64 0) ∧ Below w.heap.size w w')) :
    Calls Tryd.prog 10 #[.int .u8 op] w fun e w' => ∃ v1 v2, e = .returned (.tuple #[v1, v2, .bool false]) ∧ IsK w' w.heap.size v1 [] ∧ IsK w' w.heap.size v2 [] ∧ Below w.heap.size w w' := by
  go_enter Tryd.func10, Tryd.ntmps10
  go_wp2_with fail
  refine (HW.out _).mono ?_
  rintro e w1 ⟨rfl, rfl⟩
  go_wp2_with fail
  refine (HK.out _).mono ?_
  rintro e w1 ⟨rfl, rfl⟩
  go_wp2_with fail
  refine HN.out.mono ?_
  rintro e w2 ⟨rfl, b1⟩
  go_wp2
  go_ret3
  exact ⟨_, _, rfl, isK_nil _ _, isK_nil _ _, b1⟩
theorem insW_range (op : Int) : 0 ≤ insW op := by
  unfold insW
  split
  · omega
  · split
    · omega
    · split
      · omega
      · split <;> omega
theorem plain_any (op : Int) (h0 : 0 ≤ op) (h1 : op ≤ 255) (w : World) (hT : TabIn w) : Calls Tryd.prog 10 #[.int .u8 op] w fun e w' => ∃ v1 v2, e = .returned (.tuple #[v1, v2, .bool (pIs op)]) ∧ IsK w' w.heap.size v1 (pIn op) ∧ IsK w' w.heap.size v2 (pOut op) ∧ Below w.heap.size w w' := by
  have ne : ∀ k : Int, op ≠ k → (op == k) = false := fun k hk => by rw [beq_eq_false_iff_ne]; exact hk
  by_cases h63 : op = 63
  · subst h63; exact plain_63 w
  by_cases h65 : op = 65
  · subst h65; exact plain_65 w
  by_cases h66 : op = 66
  · subst h66; exact plain_66 w
  by_cases h64 : op = 64
  · subst h64; exact plain_64 w
  have n63 : ¬ (63 ≤ op ∧ op ≤ 66) := by omega
  by_cases hw : 0 < insW op
  · have e3 : pIs op = true := by unfold pIs; simp [hw]
    by_cases h54 : op < 54
    · have e1 : pIn op = [127] := by unfold pIn; rw [if_neg (by omega), if_neg h64, if_pos hw, if_pos h54]
      have e2 : pOut op = [kMem op] := by unfold pOut; rw [if_neg (by omega), if_neg h66, if_neg h64, if_pos hw, if_pos h54]
      rw [e1, e2, e3]
      refine (plain_place op (insW op) (ne 63 h63) (ne 65 h65) (ne 66 h66) (ne 64 h64) hw _ _ w _ (fun w => width_any op w) (place_load op hw h54 w)).mono ?_
      rintro e w1 ⟨rfl, rfl⟩
      exact ⟨_, _, rfl, isK_one _ _ _ _ (Nat.le_refl _) (by simp; omega) (by simp), isK_one _ _ _ _ (by omega) (by simp) (by simp), ((Below.refl _ _).alloc (Nat.le_refl _) _).alloc (by simp) _⟩
    · have e1 : pIn op = [127, kMem op] := by unfold pIn; rw [if_neg (by omega), if_neg h64, if_pos hw, if_neg h54]
      have e2 : pOut op = [] := by unfold pOut; rw [if_neg (by omega), if_neg h66, if_neg h64, if_pos hw, if_neg h54]
      rw [e1, e2, e3]
      refine (plain_place op (insW op) (ne 63 h63) (ne 65 h65) (ne 66 h66) (ne 64 h64) hw _ _ w _ (fun w => width_any op w) (place_store op hw h54 w)).mono ?_
      rintro e w1 ⟨rfl, rfl⟩
      exact ⟨_, _, rfl, isK_two _ _ _ _ _ (Nat.le_refl _) (by simp) (by simp) (by simp), isK_nil _ _, (Below.refl _ _).alloc (Nat.le_refl _) _⟩
  · have e0 : insW op = 0 := by have := insW_range op; omega
    have cw : ∀ w, Calls Tryd.prog 13 #[.int .u8 op] w fun e w' => e = .returned (.int .i64 0) ∧ w' = w := fun w => by rw [← e0]; exact width_any op w
    have ct := taken_any op h0 h1 w hT
    by_cases hn1 : insN op = 1
    · have e1 : pIn op = [kTake op] := by unfold pIn; rw [if_neg (by omega), if_neg h64, if_neg hw, if_pos hn1]
      have e2 : pOut op = [kGive op] := by unfold pOut; rw [if_neg (by omega), if_neg h66, if_neg h64, if_neg hw, if_pos hn1]
      have e3 : pIs op = true := by unfold pIs; simp [hn1]
      rw [e1, e2, e3]
      rw [hn1] at ct
      exact plain_one op (kTake op) (kGive op) (ne 63 h63) (ne 65 h65) (ne 66 h66) (ne 64 h64) w cw (fun w => kinds_any op h0 h1 w) ct
    by_cases hn2 : insN op = 2
    · have e1 : pIn op = [kTake op, kTake op] := by unfold pIn; rw [if_neg (by omega), if_neg h64, if_neg hw, if_neg hn1, if_pos hn2]
      have e2 : pOut op = [kGive op] := by unfold pOut; rw [if_neg (by omega), if_neg h66, if_neg h64, if_neg hw, if_neg hn1, if_pos hn2]
      have e3 : pIs op = true := by unfold pIs; simp [hn2]
      rw [e1, e2, e3]
      rw [hn2] at ct
      exact plain_two op (kTake op) (kGive op) (ne 63 h63) (ne 65 h65) (ne 66 h66) (ne 64 h64) w cw (fun w => kinds_any op h0 h1 w) ct
    · have hn0 : insN op = 0 := by unfold insN at hn1 hn2 ⊢; revert hn1 hn2; cases isOne op <;> cases isTwo op <;> simp
      have e1 : pIn op = [] := by unfold pIn; rw [if_neg (by omega), if_neg h64, if_neg hw, if_neg hn1, if_neg hn2]
      have e2 : pOut op = [] := by unfold pOut; rw [if_neg (by omega), if_neg h66, if_neg h64, if_neg hw, if_neg hn1, if_neg hn2]
      have e3 : pIs op = false := by unfold pIs; simp [hw, hn0, n63]
      rw [e1, e2, e3]
      rw [hn0] at ct
      exact plain_no op (kTake op) (kGive op) (ne 63 h63) (ne 65 h65) (ne 66 h66) (ne 64 h64) w cw (fun w => kinds_any op h0 h1 w) ct
end Go.Proofs.YtdbhdgkbkhjikaaDoor
