/-
  What the walk of the document's own BinCheck leans on.
-/
import Derived.Test.YtakpkdckajjooaaGreatDoorCRF2
namespace Go.Proofs.YtakpkdckajjooaaGreatDoor
set_option linter.unusedVariables false
open Go.RowKit
theorem box_kp {wr w2 : World} {cs : Array Value} {T : TypeId} (q : Kp notF (wr.alloc (.cells cs T)) w2) (hT : notF T = true) : w2.heap[wr.heap.size]? = some (.cells cs T (0, 0)) := (q.blk _ _ _ _ (new_block _ _) hT).trans (new_block _ _)
theorem faddGt (N P n : Nat) (e c k x : Int) (w : World) (h : FS w N P n e) (hx : x ≠ 0) (hNP : N ≤ P) (hn : n ≤ 8796093022208) :
    Calls Tryz.prog 18 #[.pointer (some ⟨P, 0, none⟩), .bool (decide (c < k)), .int .i64 x] w (FOut N P n 1 (fstE e (okE (decide (k ≤ c)) x)) w) := by
  have := fadd N P n e x (decide (c < k)) w h (fun _ => hx) hNP hn
  have e1 : (!decide (c < k)) = decide (k ≤ c) := by
    by_cases hc : c < k
    · rw [decide_eq_true hc, decide_eq_false (by omega)]; rfl
    · rw [decide_eq_false hc, decide_eq_true (by omega)]; rfl
  rw [e1] at this
  exact this
theorem chkFun_eq (d : FunD) : chkFun d = fstE (chkNum d.t) (fstE (chkL 16 chkKind d.l.xs) (nChk d.b)) := by
  unfold chkFun
  rw [fstE_assoc]
  have : okE (nChk d.b == 0) (nChk d.b) = nChk d.b := by
    unfold okE
    split
    · rename_i h; exact (eq_of_beq h).symm
    · rfl
  rw [this]
theorem chkL_one (k : Int) : chkL 1 chkKind [k] = chkKind k := by
  unfold chkL frst frst
  rw [show okE (decide ((([k] : List Int).length : Int) ≤ 1)) 2 = 0 from rfl, fstE_zero, fstE_0]
theorem chkGlo_eq (d : GloD) (b : Bool) (hb : b = (d.k == 127 && !s32 d.s)) : chkGlo d = fstE (chkL 1 chkKind [d.k]) (okE (!b) 1) := by
  rw [chkL_one, hb]
  unfold chkGlo chkKind isK
  by_cases h6 : d.k = 126
  · rw [h6]; rfl
  · by_cases h7 : d.k = 127
    · rw [h7]
      cases s32 d.s <;> rfl
    · have e6 : (d.k == 126) = false := beq_eq_false_iff_ne.2 h6
      have e7 : (d.k == 127) = false := beq_eq_false_iff_ne.2 h7
      rw [e6, e7]
      cases s32 d.s <;> rfl
theorem NumD.ok.stays {k : IntKind} {w0 w : World} {d : NumD} {N : Nat} (h : d.ok k w0) (hN : w0.heap.size ≤ N) (hb : Below N w0 w) : d.xs = [] ∨ ∃ b f, d.o = some ⟨b, f, none⟩ ∧ ∀ w', Below N w w' → Kp notF w w' → ∀ i (h : i < d.xs.length), w'.cell? ⟨b, f + i, none⟩ = some (.int k d.xs[i]) := by
  rcases h.at1 hN with h0 | ⟨b, f, h1, h2, h3⟩
  · exact Or.inl h0
  · refine Or.inr ⟨b, f, h1, fun w' b' _ i hi => ?_⟩
    rw [b'.cell (p := ⟨b, f + i, none⟩) h2, hb.cell (p := ⟨b, f + i, none⟩) h2]
    have := h3 i hi 0 (by omega)
    rw [Nat.mul_one, Nat.add_zero] at this
    rw [this]
    rfl
theorem fkindsD (N P n : Nat) (e most : Int) (hm0 : 0 ≤ most) (hm1 : most ≤ 1000) (d : NumD) (w0 w : World) (h : FS w N P n e) (hNP : N ≤ P) (hN : w0.heap.size ≤ N) (hb : Below N w0 w) (hd : d.ok .u8 w0) (hn : n + d.n + 1 ≤ 8796093022208) :
    Calls Tryz.prog 19 #[.pointer (some ⟨P, 0, none⟩), .slice d.o d.n d.cap, .int .i64 most] w (FOut N P n (d.n + 1) (fstE e (chkL most chkKind d.xs)) w) := by
  have m1 := hd.most
  unfold maxLen at m1
  exact fkindsG N P n e most hm0 hm1 d.o d.n d.cap d.xs w h hNP hd.len (hd.stays hN hb) hd.le (by omega) hn
theorem faddLt (N P n : Nat) (e c k x : Int) (w : World) (h : FS w N P n e) (hx : x ≠ 0) (hNP : N ≤ P) (hn : n ≤ 8796093022208) :
    Calls Tryz.prog 18 #[.pointer (some ⟨P, 0, none⟩), .bool (decide (k < c)), .int .i64 x] w (FOut N P n 1 (fstE e (okE (decide (c ≤ k)) x)) w) := faddGt N P n e k c x w h hx hNP hn
end Go.Proofs.YtakpkdckajjooaaGreatDoor
