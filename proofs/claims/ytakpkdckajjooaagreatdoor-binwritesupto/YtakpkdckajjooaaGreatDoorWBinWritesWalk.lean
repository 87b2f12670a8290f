/-
 BinWrites: what the program's Write says of a module is what the document's own BinWrite says.
-/
import Derived.Test.YtakpkdckajjooaaGreatDoorWQK
import Derived.Test.YtakpkdckajjooaaGreatDoorWQS
import Derived.Test.YtakpkdckajjooaaGreatDoorWBinChecksWalk
set_option maxHeartbeats 4000000
set_option maxRecDepth 1000000
namespace Go.Proofs.YtakpkdckajjooaaGreatDoor
open Go.RowKit
set_option linter.unusedVariables false
theorem wout_one (m : ModD) : ∃ (t : ByteArray) (e : Int), ∀ w r w', WOut w m r w' → r = .returned (.tuple #[.string t, .int .i64 e]) ∧ Below w.heap.size w w' := by
 by_cases h0 : mChk m = 0
 ·by_cases hl : 4096 < (tMod m.val).length
  ·refine ⟨⟨#[]⟩, 2, fun w r w' h => ?_⟩
   rcases h.2 with ⟨h1, _⟩ | ⟨_, _, h3⟩ | ⟨_, h2, _⟩
   ·exact absurd h0 h1
   ·exact ⟨h3, h.1⟩
   ·omega
  ·by_cases he : ∃ t, nums t = tMod m.val
   ·obtain ⟨t, ht⟩ := he
    refine ⟨t, 0, fun w r w' h => ?_⟩
    rcases h.2 with ⟨h1, _⟩ | ⟨_, h2, _⟩ | ⟨_, _, u, h3, hu⟩
    ·exact absurd h0 h1
    ·exact absurd h2 hl
    ·rw [nums_inj (hu.trans ht.symm)] at h3
     exact ⟨h3, h.1⟩
   ·refine ⟨⟨#[]⟩, 0, fun w r w' h => ?_⟩
    rcases h.2 with ⟨h1, _⟩ | ⟨_, h2, _⟩ | ⟨_, _, u, _, hu⟩
    ·exact absurd h0 h1
    ·exact absurd h2 hl
    ·exact absurd ⟨u, hu⟩ he
 ·refine ⟨⟨#[]⟩, mChk m, fun w r w' h => ?_⟩
  rcases h.2 with ⟨_, h1⟩ | ⟨h1, _⟩ | ⟨h1, _⟩
  ·exact ⟨h1, h.1⟩
  ·exact absurd h1 h0
  ·exact absurd h1 h0
theorem bwrites_core (oT oI oF oG oE oL oD : Option Addr) (nT kT nI kI nF kF nG kG nE kE nL kL nD kD : Nat) (t p q s : Int) (T : ByteArray) (e : Int) (w : World)
  (HC : Hid (∀ w', Below (w.heap.size + 1) (w.alloc (.cells #[.slice oT nT kT, .slice oI nI kI, .slice oF nF kF, .int .i64 t, .int .i64 p, .int .i64 q, .slice oG nG kG, .slice oE nE kE, .int .i64 s, .slice oL nL kL, .slice oD nD kD] 30)) w' → Calls Tryz.prog 11 #[.agg #[.slice oT nT kT, .slice oI nI kI, .slice oF nF kF, .int .i64 t, .int .i64 p, .int .i64 q, .slice oG nG kG, .slice oE nE kE, .int .i64 s, .slice oL nL kL, .slice oD nD kD]] w' fun r w'' => r = .returned (.tuple #[.string T, .int .i64 e]) ∧ Below w'.heap.size w' w''))
  (HD : Hid (∀ w', Below (w.heap.size + 1) (w.alloc (.cells #[.slice oT nT kT, .slice oI nI kI, .slice oF nF kF, .int .i64 t, .int .i64 p, .int .i64 q, .slice oG nG kG, .slice oE nE kE, .int .i64 s, .slice oL nL kL, .slice oD nD kD] 30)) w' → Calls Tryz.prog 12 #[.agg #[.slice oT nT kT, .slice oI nI kI, .slice oF nF kF, .int .i64 t, .int .i64 p, .int .i64 q, .slice oG nG kG, .slice oE nE kE, .int .i64 s, .slice oL nL kL, .slice oD nD kD]] w' fun r w'' => r = .returned (.tuple #[.string T, .int .i64 e]) ∧ Below w'.heap.size w' w'')) :
  Calls Tryz.prog 4 #[.agg #[.slice oT nT kT, .slice oI nI kI, .slice oF nF kF, .int .i64 t, .int .i64 p, .int .i64 q, .slice oG nG kG, .slice oE nE kE, .int .i64 s, .slice oL nL kL, .slice oD nD kD]] w fun r w' => r = .returned (.bool true) ∧ Below w.heap.size w w' := by
 go_enter Tryz.func4, Tryz.ntmps4
 have HA0 : Hid (Below (w.heap.size + 1) (w.alloc (.cells #[.slice oT nT kT, .slice oI nI kI, .slice oF nF kF, .int .i64 t, .int .i64 p, .int .i64 q, .slice oG nG kG, .slice oE nE kE, .int .i64 s, .slice oL nL kL, .slice oD nD kD] 30)) (w.alloc (.cells #[.slice oT nT kT, .slice oI nI kI, .slice oF nF kF, .int .i64 t, .int .i64 p, .int .i64 q, .slice oG nG kG, .slice oE nE kE, .int .i64 s, .slice oL nL kL, .slice oD nD kD] 30))) := Below.refl _ _
 obtain ⟨c0, c1, c2, c3, c4, c5, c6, c7, c8, c9, c10⟩ := cells11 HA0.out
 go_wp2_with fail
 refine (HC.out _ HA0.out).mono ?_
 rintro r w1 ⟨rfl, b1⟩
 have HA1 : Hid (Below (w.heap.size + 1) (w.alloc (.cells #[.slice oT nT kT, .slice oI nI kI, .slice oF nF kF, .int .i64 t, .int .i64 p, .int .i64 q, .slice oG nG kG, .slice oE nE kE, .int .i64 s, .slice oL nL kL, .slice oD nD kD] 30)) w1) := b1.mono (by simp)
 clear c0 c1 c2 c3 c4 c5 c6 c7 c8 c9 c10 b1 HC HA0
 obtain ⟨c0, c1, c2, c3, c4, c5, c6, c7, c8, c9, c10⟩ := cells11 HA1.out
 go_wp2_with fail
 refine (HD.out _ HA1.out).mono ?_
 rintro r w2 ⟨rfl, b2⟩
 have HA2 : Hid (Below (w.heap.size + 1) (w.alloc (.cells #[.slice oT nT kT, .slice oI nI kI, .slice oF nF kF, .int .i64 t, .int .i64 p, .int .i64 q, .slice oG nG kG, .slice oE nE kE, .int .i64 s, .slice oL nL kL, .slice oD nD kD] 30)) w2) := HA1.out.trans (b2.mono (box_size HA1.out))
 clear c0 c1 c2 c3 c4 c5 c6 c7 c8 c9 c10 b2 HD HA1
 go_wp2
 go_ret
 exact ⟨rfl, Below.trans ((Below.refl _ _).alloc (Nat.le_refl _) _) (HA2.out.mono (Nat.le_succ _))⟩
theorem binWrites_walk (m : ModD) (w : World) (hA : Amb w) (hM : MaxIn w) (hm : m.ok w) (hs : SmallM m 1048576) :
  Calls Tryz.prog 4 #[.agg (mcA m)] w fun r w' => r = .returned (.bool true) ∧ Below w.heap.size w w' := by
 have hx : ∀ w', Below (w.heap.size + 1) (w.alloc (.cells (mcA m) 30)) w' → Below w.heap.size w w' := fun w' b => ((Below.refl _ _).alloc (Nat.le_refl _) _ : Below w.heap.size w (w.alloc (.cells (mcA m) 30))).trans (b.mono (Nat.le_succ _))
 obtain ⟨T, e, hO⟩ := wout_one m
 exact bwrites_core m.oT m.oI m.oF m.oG m.oE m.oL m.oD m.types.length m.cT m.imports.length m.cI m.funcs.length m.cF m.globals.length m.cG m.exports.length m.cE m.elems.length m.cL m.data.length m.cD m.table m.pages m.most m.start T e w (fun w' b => (write_mod m (mcA m) rfl w' (hA.below (hx w' b)) (hm.below (hx w' b))).mono (fun r w'' h => hO w' r w'' h)) (fun w' b => (binWrite_any m (mcA m) rfl w' (hA.below (hx w' b)) (hm.below (hx w' b)) hs (maxIn_below hM (hx w' b))).mono (fun r w'' h => hO w' r w'' h))
end Go.Proofs.YtakpkdckajjooaaGreatDoor
