/-
  The document's own list of faults: the first one counts.
-/
import Derived.Test.YtakpkdckajjooaaGreatDoorCQG
import Derived.Test.YtakpkdckajjooaaGreatDoorCNRow
import Derived.Test.YtakpkdckajjooaaGreatDoorProg
import Derived.Below
import Derived.Shelf.Strings.Builder1
import Derived.Lib.Builder
import Derived.Lib.AppendStr
import Derived.WalkKit
import Derived.Laws.Externs
import Derived.Test.YtakpkdckajjooaaGreatDoorCBList
set_option maxHeartbeats 4000000
set_option maxRecDepth 1000000
namespace Go.Proofs.YtakpkdckajjooaaGreatDoor
set_option linter.unusedVariables false
open Go.RowKit
def notF (t : TypeId) : Bool := t != 46 && t != 31
structure FS (w : World) (N P n : Nat) (e : Int) : Prop where
  out : ∃ (o : Option Addr) (cap : Nat) (es : List Int), w.heap[P]? = some (.cells #[.slice o n cap] 46 (0, 0)) ∧ w.ownsRow N 31 1 (.slice o n cap) n (es.map (Value.int .i64)) ∧ es.length = n ∧ (∀ x ∈ es, x ≠ 0) ∧ e = es.headD 0
theorem FS.lt {w : World} {N P n : Nat} {e : Int} (h : FS w N P n e) : P < w.heap.size := by
  obtain ⟨o, cap, es, h1, _⟩ := h.out
  exact some_lt h1
theorem FS.kp {w w' : World} {N P n : Nat} {e : Int} {S : TypeId → Bool} (h : FS w N P n e) (q : Kp S w w') (h1 : S 46 = true) (h2 : S 31 = true) : FS w' N P n e := by
  obtain ⟨o, cap, es, g1, g2, g3⟩ := h.out
  exact ⟨o, cap, es, by rw [q.blk P _ _ _ g1 h1, g1], own_kp g2 q h2, g3⟩
theorem FS.below {w w' : World} {N P n : Nat} {e : Int} (h : FS w N P n e) (b : Below w.heap.size w w') : FS w' N P n e := h.kp (Kp.below (fun _ => true) b) rfl rfl
theorem FS.new (w : World) (N : Nat) : FS (w.alloc (.cells #[.slice none 0 0] 46)) N w.heap.size 0 0 :=
  ⟨none, 0, [], new_block _ _, World.ownsRow_nil _ _ _ _, rfl, by simp, rfl⟩
def FOut (N P n k : Nat) (e : Int) (w : World) (r : Ending) (w' : World) : Prop := r = .returned (.tuple #[]) ∧ ∃ n', n' ≤ n + k ∧ FS w' N P n' e ∧ Below N w w' ∧ Kp notF w w'
theorem head_fst {es : List Int} (h : ∀ x ∈ es, x ≠ 0) (x : Int) : (es ++ [x]).headD 0 = fstE (es.headD 0) x := by
  cases es with
  | nil => simp [fstE]
  | cons a l =>
    have := h a (by simp)
    simp [fstE, this]
theorem fadd_no (N P n : Nat) (e x : Int) (w : World) (h : FS w N P n e) :
    Calls Tryz.prog 18 #[.pointer (some ⟨P, 0, none⟩), .bool false, .int .i64 x] w (FOut N P n 1 e w) := by
  have HH : Hid (FS w N P n e) := h
  clear h
  go_enter Tryz.func18, Tryz.ntmps18
  go_wp2
  go_end0
  exact ⟨rfl, n, by omega, HH.out, Below.refl _ _, Kp.refl _ _⟩
theorem Tryz.infoFlt : (Tryz.prog.info? 31).map (fun i => (i.zero, i.size, i.bytes)) = some (some (.int .i64 0), 1, 8) := by kernel_rfl
theorem fadd_yes (N P n : Nat) (e x : Int) (w : World) (h : FS w N P n e) (hx : x ≠ 0) (hNP : N ≤ P) (hn : n ≤ 8796093022208) :
    Calls Tryz.prog 18 #[.pointer (some ⟨P, 0, none⟩), .bool true, .int .i64 x] w (FOut N P n 1 (fstE e x) w) := by
  obtain ⟨o, cap, es, h1, h2, h3, h4, h5⟩ := h.out
  have hf : w.frozen? ⟨P, 0, none⟩ = false := by simp [World.frozen?, h1]
  have hc : w.cell? ⟨P, 0, none⟩ = some (.slice o n cap) := by simp [World.cell?, h1]
  obtain ⟨i0, hi, hz0, hz1, hz2⟩ := info_parts Tryz.infoFlt
  have HP : Hid (type_of% h1) := h1
  have HO : Hid (type_of% h2) := h2
  have HL : Hid (es.length = n) := h3
  have HE : Hid ((es ++ [x]).headD 0 = fstE e x) := by unfold Hid; rw [h5]; exact head_fst h4 x
  have HN : Hid (∀ y ∈ es ++ [x], y ≠ 0) := by
    intro y hy
    rcases List.mem_append.1 hy with hy | hy
    · exact h4 y hy
    · rw [List.mem_singleton] at hy; rw [hy]; exact hx
  have hPw := h.lt
  have bA : Below w.heap.size w (w.alloc (.cells #[.int .i64 x] 31)) := (Below.refl _ _).alloc (Nat.le_refl _) _
  have HBA : Hid (type_of% bA) := bA
  clear h h1 h2 h3 h4 h5 hx bA
  go_enter Tryz.func18, Tryz.ntmps18
  go_wp2_with (at_builtin; refine wpList_append_lies _ rfl _ _ 46 rfl N 31 i0 (.int .i64 0) 1 8 Tryz.underlying46 hi hz0 hz1 hz2 rfl (by omega) _ n (es.map (Value.int .i64)) rfl (HO.out.alloc _) ⟨w.heap.size, 0, none⟩ 1 1 [.int .i64 x] rfl rfl (World.news_of_block (cs := #[.int .i64 x]) (t := 31) (fr := (0, 0)) (heap_alloc_new w _)) (by simp [Value.oneCell']) (by omega) (by unfold maxLen; omega) (by omega) (by simp; omega) (w.heap.size + 1) (by simp) ?_)
  intro g capg w3 hown hgrow hat hlt3
  have q : Kp (fun t => t != 31) w w3 := (Kp.below _ HBA.out).trans (Kp.grown (HO.out.alloc _) hgrow _ (by decide))
  have HP3 : Hid (w3.heap[P]? = some (.cells #[.slice o n cap] 46 (0, 0))) := (q.blk P _ _ _ HP.out (by decide)).trans HP.out
  have hf3 : w3.frozen? ⟨P, 0, none⟩ = false := by simp [World.frozen?, HP3.out]
  have hc3 : w3.cell? ⟨P, 0, none⟩ = some (.slice o n cap) := by simp [World.cell?, HP3.out]
  have HQ : Hid (type_of% q) := q
  have HB3 : Hid (Below N w w3) := ((HBA.out.mono (by omega)).grown hgrow (by simp; omega) (fun j hj => (HO.out.lt j hj).1))
  have HO3 : Hid (w3.ownsRow N 31 1 (.slice (some ⟨g, 0, none⟩) (n + 1) capg) (n + 1) ((es ++ [x]).map (Value.int .i64))) := by
    unfold Hid
    rw [List.map_append]
    exact hown
  clear hown hgrow hat hlt3 q
  go_wp2
  go_end0
  have hch : Chg P w3 (w3.setCell ⟨P, 0, none⟩ (.slice (some ⟨g, 0, none⟩) (n + 1) capg)) := Chg.set _ _ _ _
  have qk : Kp (fun t => t != 46) w3 (w3.setCell ⟨P, 0, none⟩ (.slice (some ⟨g, 0, none⟩) (n + 1) capg)) := Kp.chg HP3.out hch _ (by decide)
  refine ⟨rfl, n + 1, Nat.le_refl _, ⟨some ⟨g, 0, none⟩, capg, es ++ [x], ?_, own_kp HO3.out qk (by decide), by rw [List.length_append, HL.out]; rfl, HN.out, HE.out.symm⟩, HB3.out.trans (hch.below hNP (Nat.le_trans (by omega) HB3.out.size)), (HQ.out.weak ?_).trans (qk.weak ?_)⟩
  · have := HP3.out
    simp [World.setCell, Array.getElem?_modify, this]
  · intro t ht
    unfold notF at ht
    rw [Bool.and_eq_true] at ht
    exact ht.2
  · intro t ht
    unfold notF at ht
    rw [Bool.and_eq_true] at ht
    exact ht.1
theorem fadd (N P n : Nat) (e x : Int) (bad : Bool) (w : World) (h : FS w N P n e) (hx : bad = true → x ≠ 0) (hNP : N ≤ P) (hn : n ≤ 8796093022208) :
    Calls Tryz.prog 18 #[.pointer (some ⟨P, 0, none⟩), .bool bad, .int .i64 x] w (FOut N P n 1 (fstE e (okE (!bad) x)) w) := by
  cases bad with
  | true => exact fadd_yes N P n e x w h (hx rfl) hNP hn
  | false =>
    have e1 : fstE e (okE (!false) x) = e := by
      unfold okE fstE
      simp
      intro h
      exact h.symm
    rw [e1]
    exact fadd_no N P n e x w h
end Go.Proofs.YtakpkdckajjooaaGreatDoor
