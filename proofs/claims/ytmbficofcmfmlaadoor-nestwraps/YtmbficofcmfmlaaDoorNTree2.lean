/-
  Trees of a body, as they lie in memory.
-/
import Derived.Test.YtmbficofcmfmlaaDoorNTree1
namespace Go.Proofs.YtmbficofcmfmlaaDoor
open Go.RowKit

def endV : V4 := ⟨11, 0, 0, []⟩
def elseV : V4 := ⟨5, 0, 0, []⟩
/-- A row of parts: its cells; F says in which blocks rows may lie. -/
def RowP (w : World) (F : Nat → Prop) (o : Option Addr) (k cap : Nat) (c : List Value) : Prop :=
  c.length = k ∧ k ≤ cap ∧ cap ≤ maxLen ∧ (k = 0 ∨ ∃ g, o = some ⟨g, 0, none⟩ ∧ F g ∧ (∃ (cur : Array Value) (f : Nat × Nat), w.heap[g]? = some (.cells cur 107 f)) ∧ ∀ i, i < k → w.cell? ⟨g, i, none⟩ = c[i]?)
/-- The cells of a list of parts, what it is as a list, how deep it is, and how many blocks it has. -/
inductive PL (w : World) (F : Nat → Prop) : List Value → List V4 → Nat → Nat → Prop
  | nil : PL w F [] [] 0 0
  | single (d : InsD) (h : OkT w d) (hn : d.n ≤ 16) (cs : List Value) (L : List V4) (dp sz : Nat) (r : PL w F cs L dp sz) : PL w F (.iface 135 (.agg #[.int .u8 d.op, .int .i64 d.A, .int .i64 d.B, .slice d.o d.n d.cap]) :: cs) (d.val :: L) dp sz
  | block (d : InsD) (h : OkT w d) (hn : d.n ≤ 16) (o : Option Addr) (k cap : Nat) (ci : List Value) (LI : List V4) (di si : Nat) (hr : RowP w F o k cap ci) (ri : PL w F ci LI di si) (cs : List Value) (L : List V4) (dp sz : Nat) (r : PL w F cs L dp sz) :
      PL w F (.iface 110 (.agg #[.int .u8 d.op, .int .i64 d.A, .int .i64 d.B, .slice d.o d.n d.cap, .slice o k cap]) :: cs) (d.val :: (LI ++ endV :: L)) (max (1 + di) dp) (1 + si + sz)
  | choice (d : InsD) (h : OkT w d) (hn : d.n ≤ 16) (o : Option Addr) (k cap : Nat) (ci : List Value) (LI : List V4) (di si : Nat) (hr : RowP w F o k cap ci) (ri : PL w F ci LI di si)
      (els : Bool) (o2 : Option Addr) (k2 cap2 : Nat) (c2 : List Value) (L2 : List V4) (d2 s2 : Nat) (hr2 : RowP w F o2 k2 cap2 c2) (ri2 : PL w F c2 L2 d2 s2) (he : els = false → c2 = []) (cs : List Value) (L : List V4) (dp sz : Nat) (r : PL w F cs L dp sz) :
      PL w F (.iface 112 (.agg #[.int .u8 d.op, .int .i64 d.A, .int .i64 d.B, .slice d.o d.n d.cap, .slice o k cap, .bool els, .slice o2 k2 cap2]) :: cs) (d.val :: (LI ++ ((if els = true then elseV :: L2 else []) ++ endV :: L))) (max (max (1 + di) (1 + d2)) dp) (1 + si + s2 + sz)
theorem OkT.keep {w w' : World} {d : InsD} (h : OkT w d) (hs : w.heap.size ≤ w'.heap.size) (h2 : ∀ (j : Nat) (cur : Array Value) (f : Nat × Nat), w.heap[j]? = some (.cells cur 2 f) → w'.heap[j]? = w.heap[j]?) : OkT w' d := by
  refine ⟨ok_keep h.1 hs fun h0 g hg => ?_, fun h0 => ?_⟩
  · obtain ⟨g', cur, f, e, hc⟩ := h.2 h0
    rw [hg] at e
    cases e
    exact h2 _ _ _ hc
  · obtain ⟨g', cur, f, e, hc⟩ := h.2 h0
    exact ⟨g', cur, f, e, by rw [h2 _ _ _ hc]; exact hc⟩
theorem RowP.keep {w w' : World} {F G : Nat → Prop} {o : Option Addr} {k cap : Nat} {c : List Value} (h : RowP w F o k cap c) (hF : ∀ g, F g → g < w.heap.size → G g ∧ w'.heap[g]? = w.heap[g]?) : RowP w' G o k cap c := by
  obtain ⟨h1, h2, h3, h4⟩ := h
  refine ⟨h1, h2, h3, ?_⟩
  rcases h4 with h4 | ⟨g, rfl, hg, ⟨cur, f, hc⟩, hi⟩
  · exact Or.inl h4
  · obtain ⟨hG, hk⟩ := hF g hg (some_lt hc)
    exact Or.inr ⟨g, rfl, hG, ⟨cur, f, by rw [hk]; exact hc⟩, fun i hik => by rw [World.cell?_of_block (w := w) (a := ⟨g, i, none⟩) hk]; exact hi i hik⟩
theorem PL.keep {w w' : World} {F G : Nat → Prop} {cs : List Value} {L : List V4} {dp sz : Nat} (h : PL w F cs L dp sz) (hs : w.heap.size ≤ w'.heap.size) (h2 : ∀ (j : Nat) (cur : Array Value) (f : Nat × Nat), w.heap[j]? = some (.cells cur 2 f) → w'.heap[j]? = w.heap[j]?) (hF : ∀ g, F g → g < w.heap.size → G g ∧ w'.heap[g]? = w.heap[g]?) : PL w' G cs L dp sz := by
  induction h with
  | nil => exact PL.nil
  | single d h hn cs L dp sz r ih => exact PL.single d (h.keep hs h2) hn cs L dp sz ih
  | block d h hn o k cap ci LI di si hr ri cs L dp sz r ihi ih => exact PL.block d (h.keep hs h2) hn o k cap ci LI di si (hr.keep hF) ihi cs L dp sz ih
  | choice d h hn o k cap ci LI di si hr ri els o2 k2 cap2 c2 L2 d2 s2 hr2 ri2 he cs L dp sz r ihi ihj ih => exact PL.choice d (h.keep hs h2) hn o k cap ci LI di si (hr.keep hF) ihi els o2 k2 cap2 c2 L2 d2 s2 (hr2.keep hF) ihj he cs L dp sz ih
theorem PL.under {w w' : World} {F : Nat → Prop} {cs : List Value} {L : List V4} {dp sz : Nat} (h : PL w F cs L dp sz) (b : Below w.heap.size w w') : PL w' F cs L dp sz :=
  h.keep b.size (fun j _ _ hj => b.block j (some_lt hj)) (fun g hg hl => ⟨hg, b.block g hl⟩)
theorem RowP.under {w w' : World} {F : Nat → Prop} {o : Option Addr} {k cap : Nat} {c : List Value} (h : RowP w F o k cap c) (b : Below w.heap.size w w') : RowP w' F o k cap c := h.keep fun g hg hl => ⟨hg, b.block g hl⟩
theorem PL.sizes {w : World} {F : Nat → Prop} {cs : List Value} {L : List V4} {dp sz : Nat} (h : PL w F cs L dp sz) : dp ≤ sz ∧ sz ≤ L.length ∧ cs.length ≤ L.length := by
  induction h with
  | nil => simp
  | single d h hn cs L dp sz r ih => simp; omega
  | block d h hn o k cap ci LI di si hr ri cs L dp sz r ihi ih => simp; omega
  | choice d h hn o k cap ci LI di si hr ri els o2 k2 cap2 c2 L2 d2 s2 hr2 ri2 he cs L dp sz r ihi ihj ih =>
    cases els with
    | true => simp; omega
    | false =>
      have := he rfl
      subst this
      cases ri2
      simp
      omega
/-- What the first part of a list is. -/
theorem PL.inv {w : World} {F : Nat → Prop} {c : Value} {cs : List Value} {L : List V4} {dp sz : Nat} (h : PL w F (c :: cs) L dp sz) :
    (∃ d L', c = .iface 135 (.agg #[.int .u8 d.op, .int .i64 d.A, .int .i64 d.B, .slice d.o d.n d.cap]) ∧ OkT w d ∧ d.n ≤ 16 ∧ PL w F cs L' dp sz ∧ L = d.val :: L') ∨
    (∃ d o k cap ci LI di si L' dp' sz', c = .iface 110 (.agg #[.int .u8 d.op, .int .i64 d.A, .int .i64 d.B, .slice d.o d.n d.cap, .slice o k cap]) ∧ OkT w d ∧ d.n ≤ 16 ∧ RowP w F o k cap ci ∧ PL w F ci LI di si ∧ PL w F cs L' dp' sz' ∧ L = d.val :: (LI ++ endV :: L') ∧ dp = max (1 + di) dp' ∧ sz = 1 + si + sz') ∨
    (∃ d o k cap ci LI di si els o2 k2 cap2 c2 L2 d2 s2 L' dp' sz', c = .iface 112 (.agg #[.int .u8 d.op, .int .i64 d.A, .int .i64 d.B, .slice d.o d.n d.cap, .slice o k cap, .bool els, .slice o2 k2 cap2]) ∧ OkT w d ∧ d.n ≤ 16 ∧ RowP w F o k cap ci ∧ PL w F ci LI di si ∧ RowP w F o2 k2 cap2 c2 ∧ PL w F c2 L2 d2 s2 ∧ (els = false → c2 = []) ∧ PL w F cs L' dp' sz' ∧ L = d.val :: (LI ++ ((if els = true then elseV :: L2 else []) ++ endV :: L')) ∧ dp = max (max (1 + di) (1 + d2)) dp' ∧ sz = 1 + si + s2 + sz') := by
  cases h with
  | single d h hn cs L dp sz r => exact Or.inl ⟨d, L, rfl, h, hn, r, rfl⟩
  | block d h hn o k cap ci LI di si hr ri cs L dp sz r => exact Or.inr (Or.inl ⟨d, o, k, cap, ci, LI, di, si, L, dp, sz, rfl, h, hn, hr, ri, r, rfl, rfl, rfl⟩)
  | choice d h hn o k cap ci LI di si hr ri els o2 k2 cap2 c2 L2 d2 s2 hr2 ri2 he cs L dp sz r => exact Or.inr (Or.inr ⟨d, o, k, cap, ci, LI, di, si, els, o2, k2, cap2, c2, L2, d2, s2, L, dp, sz, rfl, h, hn, hr, ri, hr2, ri2, he, r, rfl, rfl, rfl⟩)
theorem PL.inv_nil {w : World} {F : Nat → Prop} {L : List V4} {dp sz : Nat} (h : PL w F [] L dp sz) : L = [] ∧ dp = 0 ∧ sz = 0 := by
  cases h
  exact ⟨rfl, rfl, rfl⟩
/-- The flat list of a choice's second half is no longer than it is said to be. -/
theorem els_len {w : World} {F : Nat → Prop} {els : Bool} {c2 : List Value} {L2 : List V4} {d2 s2 : Nat} (h : PL w F c2 L2 d2 s2) (he : els = false → c2 = []) : L2.length ≤ (if els = true then elseV :: L2 else []).length := by
  cases els with
  | true => simp
  | false =>
    have := he rfl
    subst this
    obtain ⟨rfl, _, _⟩ := h.inv_nil
    simp

end Go.Proofs.YtmbficofcmfmlaaDoor
