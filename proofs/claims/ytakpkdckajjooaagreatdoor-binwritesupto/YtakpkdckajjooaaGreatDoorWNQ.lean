/-
 What the reading of a body says, over lists of bytes: plain mathematics.
 A list of instructions that a call itself makes.
-/
import Derived.Test.YtakpkdckajjooaaGreatDoorWGNst
import Derived.Test.YtakpkdckajjooaaGreatDoorWGVal
namespace Go.Proofs.YtakpkdckajjooaaGreatDoor
set_option linter.unusedVariables false
open Go.RowKit
structure V4 where
 op : Int
 A : Int
 B : Int
 xs : List Int
def InsD.val (d : InsD) : V4 := ⟨d.op, d.A, d.B, d.xs⟩
def Got.val (g : Got) : V4 := ⟨g.op, g.A, g.B, g.To⟩
def V4.chk (v : V4) : Int := chkV v.op v.A v.B v.xs.length v.xs
def V4.text (v : V4) : List Int := v.op :: besT (besV v.op) v.A v.B v.xs
def vRun : List V4 → List Int → Bool → Int × List Int × Bool
 | [], bs, en => (0, bs, en)
 | v :: V, bs, en => if (nStep v.chk v.op bs en).1 = 0 then vRun V (nStep v.chk v.op bs en).2.1 (nStep v.chk v.op bs en).2.2 else nStep v.chk v.op bs en
theorem val_chk (d : InsD) (h : d.xs.length = d.n) : d.val.chk = chkD d := by
 unfold V4.chk chkD
 rw [show d.val.xs.length = d.n from h]
 rfl
theorem vRun_val : ∀ (L : List InsD) (bs : List Int) (en : Bool), (∀ d ∈ L, d.xs.length = d.n) → vRun (L.map InsD.val) bs en = nRun L bs en
 | [], _, _, _ => rfl
 | d :: L, bs, en, h => by
  rw [List.map_cons, vRun, nRun, val_chk d (h d (by simp)), show d.val.op = d.op from rfl]
  split
  ·exact vRun_val L _ _ fun x hx => h x (by simp [hx])
  ·rfl
def appR (pre : List V4) (q : Int × List V4 × List Int) : Int × List V4 × List Int := if q.1 = 0 then (0, pre ++ q.2.1, q.2.2) else (q.1, [], [])
def nRd : Nat → List Int → List Int → Int × List V4 × List Int
 | 0, l, _ => if (mIns l 0).e = 0 then (2, [], []) else ((mIns l 0).e, [], [])
 | f + 1, l, bs => if (mIns l 0).e = 0 then
   (if (nStep (mIns l 0).val.chk (mIns l 0).op bs false).1 = 0 then
    (if (nStep (mIns l 0).val.chk (mIns l 0).op bs false).2.2 = true then (0, [(mIns l 0).val], (mIns l 0).l)
     else appR [(mIns l 0).val] (nRd f (mIns l 0).l (nStep (mIns l 0).val.chk (mIns l 0).op bs false).2.1))
    else ((nStep (mIns l 0).val.chk (mIns l 0).op bs false).1, [], []))
   else ((mIns l 0).e, [], [])
theorem vchk_fit (v : V4) (h : v.chk = 0) : v.xs.length ≤ 16 ∧ fitC (besV v.op) v.A v.B v.xs := by
 have hrg := besV_range v.op
 unfold V4.chk chkV at h
 split at h
 ·omega
 ·split at h
  ·omega
  ·split at h
   ·rename_i h1 h2 h3
    exact ⟨by omega, fitB_fit (besV v.op) v.A v.B v.xs.length v.xs (by omega) hrg.2 rfl (by omega) h3⟩
   ·omega
theorem step_chk {c op : Int} {bs : List Int} {en : Bool} (h : (nStep c op bs en).1 = 0) : c = 0 ∧ en = false := by
 unfold nStep at h
 by_cases hc : c = 0
 ·refine ⟨hc, ?_⟩
  rw [if_neg (by simpa using hc)] at h
  cases en with
  | false => rfl
  | true => rw [if_pos rfl] at h; exact absurd h (by simp)
 ·rw [if_pos hc] at h
  exact absurd h hc
def V4.rng (v : V4) : Prop := -9223372036854775808 ≤ v.A ∧ v.A ≤ 9223372036854775807
end Go.Proofs.YtakpkdckajjooaaGreatDoor
namespace Go.Proofs.YtakpkdckajjooaaGreatDoor
set_option linter.unusedVariables false
open Go.RowKit
theorem some_lt {w : World} {j : Nat} {x : Obj} (h : w.heap[j]? = some x) : j < w.heap.size := (Array.getElem?_eq_some_iff.1 h).1
end Go.Proofs.YtakpkdckajjooaaGreatDoor
