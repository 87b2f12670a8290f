/-
 More types, values and locals behind those that are there leave a sound module sound: over values.
 Rows that a call made as lists of parts; a list that may have one part more.
 The boxes of a module, a type and a value.
 The module with more types, values and locals, as it lies there.
 Lists of parts, cell by cell.
-/
import Derived.Test.YtgleeocebnjliaaGreatDoorBVO
namespace Go.Proofs.YtgleeocebnjliaaGreatDoor
open Go.RowKit
set_option linter.unusedVariables false
structure More (m n : ModD) : Prop where
 ty : ∃ dt, n.types = m.types ++ dt
 im : n.imports = m.imports
 fl : n.funcs.length = m.funcs.length
 ft : ∀ k : Nat, (n.funcs[k]!).t = (m.funcs[k]!).t
 fb : ∀ k : Nat, (n.funcs[k]!).b = (m.funcs[k]!).b
 fk : ∀ k : Nat, ∃ dl, (n.funcs[k]!).l.xs = (m.funcs[k]!).l.xs ++ dl
 gl : ∃ dg, n.globals = m.globals ++ dg
 tb : n.table = m.table
 mo : n.most = m.most
 ex : n.exports = m.exports
 st : n.start = m.start
 el : n.elems = m.elems
 da : n.data = m.data
theorem bang_app {α : Type} [Inhabited α] (l r : List α) (k : Nat) (h : k < l.length) : (l ++ r)[k]! = l[k]! := by
 rw [getElem!_pos (l ++ r) k (by rw [List.length_append]; omega), getElem!_pos l k h, List.getElem_append_left h]
section
variable {m n : ModD}
theorem More.sig (h : More m n) (ht : typD m = 0) (k : Nat) (hk : k < m.imports.length + m.funcs.length) (hn : (∀ d ∈ m.imports, 0 ≤ d.n) ∧ ∀ d ∈ m.funcs, 0 ≤ d.t) : sigAt n.types n.imports n.funcs k = sigAt m.types m.imports m.funcs k := by
 obtain ⟨dt, hty⟩ := h.ty
 obtain ⟨p1, p2⟩ := typD_parts ht
 unfold sigAt
 rw [h.im, h.ft, hty]
 split
 ·rename_i hi
  have hm : m.imports[k]! ∈ m.imports := by rw [getElem!_pos m.imports k hi]; exact List.getElem_mem hi
  exact bang_app _ _ _ (by have := p1 _ hm; have := hn.1 _ hm; omega)
 ·rename_i hi
  have hl : k - m.imports.length < m.funcs.length := by omega
  have hm : m.funcs[k - m.imports.length]! ∈ m.funcs := by rw [getElem!_pos m.funcs _ hl]; exact List.getElem_mem hl
  exact bang_app _ _ _ (by have := p2 _ hm; have := hn.2 _ hm; omega)
theorem opt_app {α : Type} (l r : List α) (k : Nat) (h : k < l.length) : (l ++ r)[k]? = l[k]? := List.getElem?_append_left h
theorem More.there (h : More m n) {nl nl' no : Nat} (hl : nl ≤ nl') {op a : Int} {xs : List Int} (ht : thereK m nl no op a xs = true) : thereK n nl' no op a xs = true := by
 obtain ⟨dt, hty⟩ := h.ty
 obtain ⟨dg, hgl⟩ := h.gl
 unfold thereK at ht ⊢
 rw [h.im, h.fl, h.tb, h.mo, hty, hgl, List.length_append, List.length_append]
 split
 ·rename_i c
  rw [if_pos c] at ht
  exact ht
 rename_i c1
 rw [if_neg c1] at ht
 split
 ·rename_i c
  rw [if_pos c] at ht
  exact ht
 rename_i c2
 rw [if_neg c2] at ht
 split
 ·rename_i c
  rw [if_pos c, Bool.and_eq_true] at ht
  rw [Bool.and_eq_true]
  have := of_decide_eq_true ht.2
  exact ⟨ht.1, decide_eq_true (by omega)⟩
 rename_i c3
 rw [if_neg c3] at ht
 split
 ·rename_i c
  rw [if_pos c] at ht
  have := of_decide_eq_true ht
  exact decide_eq_true (by omega)
 rename_i c4
 rw [if_neg c4] at ht
 split
 ·rename_i c
  rw [if_pos c] at ht
  have := of_decide_eq_true ht
  exact decide_eq_true (by omega)
 rename_i c5
 rw [if_neg c5] at ht
 exact ht
theorem More.eff (h : More m n) (hd : typD m = 0) (hn : (∀ d ∈ m.imports, 0 ≤ d.n) ∧ ∀ d ∈ m.funcs, 0 ≤ d.t) (loc dl : List Int) (ops : List BlkV) {no : Nat} {op a : Int} {xs : List Int} (ht : thereK m loc.length no op a xs = true) (ha : op ≤ 36 → 0 ≤ a) : effV n (loc ++ dl) ops op a = effV m loc ops op a := by
 obtain ⟨dt, hty⟩ := h.ty
 obtain ⟨dg, hgl⟩ := h.gl
 unfold effV
 by_cases c16 : op = 16
 ·subst c16
  unfold thereK at ht
  rw [if_neg (by decide), if_pos rfl] at ht
  have h1 := of_decide_eq_true ht
  have h0 := ha (by decide)
  rw [h.sig hd a.toNat (by omega) hn]
  rfl
 by_cases c17 : op = 17
 ·subst c17
  unfold thereK at ht
  rw [if_neg (by decide), if_neg (by decide), if_pos rfl, Bool.and_eq_true] at ht
  have h1 := of_decide_eq_true ht.2
  have h0 := ha (by decide)
  rw [hty, opt_app _ _ _ (show a.toNat < m.types.length by omega)]
  rfl
 by_cases cl : op = 32 ∨ op = 33 ∨ op = 34
 ·unfold thereK at ht
  rw [if_neg (by omega), if_neg c16, if_neg c17, if_pos cl] at ht
  have h1 := of_decide_eq_true ht
  have h0 := ha (by omega)
  rw [opt_app loc dl _ (show a.toNat < loc.length by omega)]
  simp only [if_neg c16, if_neg c17, if_pos cl]
 by_cases cg : op = 35 ∨ op = 36
 ·unfold thereK at ht
  rw [if_neg (by omega), if_neg c16, if_neg c17, if_neg cl, if_pos cg] at ht
  have h1 := of_decide_eq_true ht
  have h0 := ha (by omega)
  rw [hgl, opt_app m.globals dg _ (show a.toNat < m.globals.length by omega)]
  simp only [if_neg c16, if_neg c17, if_neg cl, if_pos cg]
 simp only [if_neg c16, if_neg c17, if_neg cl, if_neg cg]
theorem More.allowed (h : More m n) (ops : List BlkV) {nl no : Nat} {op a : Int} {xs : List Int} (ht : thereK m nl no op a xs = true) (ha : op ≤ 36 → 0 ≤ a) : allowedV n ops op a xs = allowedV m ops op a xs := by
 obtain ⟨dg, hgl⟩ := h.gl
 unfold allowedV
 by_cases c : op = 36
 ·subst c
  unfold thereK at ht
  rw [if_neg (by decide), if_neg (by decide), if_neg (by decide), if_neg (by decide), if_pos (by decide)] at ht
  have h1 := of_decide_eq_true ht
  have h0 := ha (by decide)
  rw [hgl, opt_app m.globals dg _ (show a.toNat < m.globals.length by omega)]
 ·rw [if_neg c, if_neg c]
theorem More.step (h : More m n) (hd : typD m = 0) (hn : (∀ d ∈ m.imports, 0 ≤ d.n) ∧ ∀ d ∈ m.funcs, 0 ≤ d.t) (loc dl st : List Int) (pre : List BlkV) (b : BlkV) (op a : Int) (xs : List Int) (ha : op ≤ 36 → 0 ≤ a) (hz : (stepV m loc st pre b false op a xs).1 = 0) : stepV n (loc ++ dl) st pre b false op a xs = stepV m loc st pre b false op a xs := by
 obtain ⟨h1, h2, h3, h4, h5⟩ := step_zero hz
 have he := h.eff hd hn loc dl (pre ++ [b]) h1 ha
 have hp : passV n (loc ++ dl) st pre b false op a = passV m loc st pre b false op a := by
  unfold passV pass1
  rw [he]
 rw [h5, step_of (h.there (by rw [List.length_append]; omega) h1) h2 (by rw [h.allowed (pre ++ [b]) h1 ha]; exact h3) (by rw [hp]; exact h4), hp]
theorem More.run (h : More m n) (hd : typD m = 0) (hn : (∀ d ∈ m.imports, 0 ≤ d.n) ∧ ∀ d ∈ m.funcs, 0 ≤ d.t) (loc dl : List Int) : ∀ (L : List InsD) (i : Nat) (T : TrkV), T.bad = false → (∀ d ∈ L, d.op ≤ 36 → 0 ≤ d.A) → (runV m loc L i T).2 = 0 → (runV n (loc ++ dl) L i T).2 = 0
 | [], _, _, _, _, _ => rfl
 | d :: L, i, ⟨st, ops, bad⟩, hb, hL, hz => by
  dsimp only at hb
  subst hb
  rw [runV_cons] at hz ⊢
  by_cases ho : ops = []
  ·subst ho
   have e (q : ModD) (l : List Int) : nextV q l ⟨st, [], false⟩ d = (0, ⟨st, [], false⟩) := rfl
   rw [e, if_pos rfl] at hz ⊢
   exact More.run h hd hn loc dl L _ _ rfl (fun x hx => hL x (by simp [hx])) hz
  ·obtain ⟨pre, b, rfl⟩ : ∃ pre b, ops = pre ++ [b] := ⟨_, _, (List.dropLast_concat_getLast ho).symm⟩
   rw [nextV_eq] at hz ⊢
   by_cases hE : (stepV m loc st pre b false d.op d.A d.xs).1 = 0
   ·rw [if_pos hE] at hz
    rw [h.step hd hn loc dl st pre b d.op d.A d.xs (hL d (by simp)) hE, if_pos hE]
    have hb2 : (stepV m loc st pre b false d.op d.A d.xs).2.bad = false := by
     obtain ⟨_, _, _, h4, h5⟩ := step_zero hE
     rw [h5]
     exact h4
    exact More.run h hd hn loc dl L _ _ hb2 (fun x hx => hL x (by simp [hx])) hz
   ·rw [if_neg hE] at hz
    exact absurd hz hE
theorem num_ge {k : Int} (h : chkNum k = 0) : 0 ≤ k := (chkNum_eq0 h).1
theorem chk_nums (h : mChk m = 0) : (∀ d ∈ m.imports, 0 ≤ d.n) ∧ ∀ d ∈ m.funcs, 0 ≤ d.t := by
 unfold mChk at h
 obtain ⟨h1, h⟩ := fstE_eq0 h
 obtain ⟨h2, h⟩ := fstE_eq0 h
 obtain ⟨h3, h⟩ := fstE_eq0 h
 have a2 := chkL_eq0 h2
 have a3 := chkL_eq0 h3
 exact ⟨fun d hd => num_ge (fstE_eq0 (a2.2 d hd)).2, fun d hd => num_ge (fstE_eq0 (fstE_eq0 (a3.2 d hd)).1).1⟩
theorem chk_start (h : mChk m = 0) : 0 ≤ m.start := by
 unfold mChk at h
 obtain ⟨_, h⟩ := fstE_eq0 h
 obtain ⟨_, h⟩ := fstE_eq0 h
 obtain ⟨_, h⟩ := fstE_eq0 h
 obtain ⟨_, h⟩ := fstE_eq0 h
 obtain ⟨_, h⟩ := fstE_eq0 h
 obtain ⟨_, h⟩ := fstE_eq0 h
 obtain ⟨_, h⟩ := fstE_eq0 h
 obtain ⟨_, h⟩ := fstE_eq0 h
 obtain ⟨_, h⟩ := fstE_eq0 h
 exact num_ge (fstE_eq0 h).1
theorem More.head (h : More m n) (h0 : headErr m = 0) (hc' : mChk n = 0) : headErr n = 0 := by
 obtain ⟨hc, hd⟩ := head_zero h0
 have hn := chk_nums hc
 obtain ⟨dt, hty⟩ := h.ty
 obtain ⟨p1, p2⟩ := typD_parts hd
 unfold headErr at h0 ⊢
 rw [if_pos hc] at h0
 rw [if_pos hc']
 split at h0
 ·rename_i q
  have hlt : (m.types.length : Int) ≤ (n.types.length : Int) := by rw [hty, List.length_append]; omega
  have q' : (n.imports.all (fun x => decide (x.n < (n.types.length : Int))) && n.funcs.all (fun x => decide (x.t < (n.types.length : Int)))) = true := by
   rw [Bool.and_eq_true]
   refine ⟨List.all_eq_true.2 fun x hx => ?_, List.all_eq_true.2 fun x hx => ?_⟩
   ·rw [h.im] at hx
    exact decide_eq_true (by have := p1 x hx; omega)
   ·obtain ⟨k, hk, rfl⟩ := List.getElem_of_mem hx
    have e := h.ft k
    rw [getElem!_pos n.funcs k hk] at e
    have hk' : k < m.funcs.length := by rw [← h.fl]; exact hk
    rw [getElem!_pos m.funcs k hk'] at e
    exact decide_eq_true (by rw [e]; have := p2 _ (List.getElem_mem hk'); omega)
  rw [if_pos q', h.fl, h.im, h.ex, h.el, h.mo, h.da, h.tb]
  have hs : startErr n.types m.imports n.funcs n.start = startErr m.types m.imports m.funcs m.start := by
   unfold startErr
   rw [h.st, h.fl]
   by_cases s0 : m.start = 0
   ·rw [if_pos s0, if_pos s0]
   rw [if_neg s0, if_neg s0]
   by_cases s1 : (m.imports.length : Int) + (m.funcs.length : Int) ≤ m.start - 1
   ·rw [if_pos s1, if_pos s1]
   rw [if_neg s1, if_neg s1]
   by_cases s2 : (m.start - 1).toNat < m.imports.length + m.funcs.length
   ·have := h.sig hd _ s2 hn
    rw [h.im] at this
    rw [this]
   ·exfalso
    have := chk_start hc
    omega
  rw [hs]
  exact h0
 ·exact absurd h0 (by decide)
end
theorem nRun_all : ∀ (L : List InsD) (bs : List Int) (en : Bool), (nRun L bs en).1 = 0 → ∀ x ∈ L, chkD x = 0
 | [], _, _, _, x, hx => by cases hx
 | d :: L, bs, en, h, x, hx => by
  rw [nRun] at h
  have hs : (nStep (chkD d) d.op bs en).1 = 0 := by
   by_cases c : (nStep (chkD d) d.op bs en).1 = 0
   ·exact c
   ·rw [if_neg c] at h
    exact absurd h c
  rw [if_pos hs] at h
  rcases List.mem_cons.1 hx with rfl | hx
  ·by_cases c : chkD x = 0
   ·exact c
   ·rw [nStep_bad _ _ _ _ c] at hs
    exact absurd hs c
  ·exact nRun_all L _ _ h x hx
theorem nChk_all {L : List InsD} (h : nChk L = 0) : ∀ x ∈ L, chkD x = 0 := by
 unfold nChk at h
 split at h
 ·exact absurd h (by decide)
 refine nRun_all L [] false ?_
 by_cases c : (nRun L [] false).1 = 0
 ·exact c
 ·rw [if_neg c] at h
  exact absurd h c
theorem more_values {w : World} {m n : ModD} (hm : m.ok w) (h : More m n) (hz : modE m = 0) (hc' : mChk n = 0) : modE n = 0 := by
 obtain ⟨h1, h2⟩ := mod_zero hz
 obtain ⟨hc, hd⟩ := head_zero h1
 have sm := mod_small hm hc
 have hn := chk_nums hc
 obtain ⟨dt, hty⟩ := h.ty
 obtain ⟨p1, p2⟩ := typD_parts hd
 unfold modE
 rw [h.head h1 hc', frst_zero fun i hi => ?_]
 ·rfl
 ·have hi' : i < m.funcs.length := by
   rw [h.fl, List.mem_range'_1] at hi
   omega
  have hzi := h2 i hi'
  have hmem : m.funcs[i]! ∈ m.funcs := by rw [getElem!_pos m.funcs i hi']; exact List.getElem_mem hi'
  have htl : (m.funcs[i]!).t.toNat < m.types.length := by have := p2 _ hmem; have := hn.2 _ hmem; omega
  obtain ⟨dl, hdl⟩ := h.fk i
  unfold firstV at hzi ⊢
  rw [h.ft, h.fb, hdl, hty, bang_app _ _ _ htl, ← List.append_assoc]
  have hck := (sm.2 _ hmem).1
  refine h.run hd hn _ dl _ 0 _ rfl (fun x hx ho => ?_) hzi
  have hall := nChk_all hck x hx
  exact (chk_says ((hm.funcs.all _ hmem).2.2.1.1 x hx) hall).1 ho
end Go.Proofs.YtgleeocebnjliaaGreatDoor
namespace Go.Proofs.YtgleeocebnjliaaGreatDoor
open Go.RowKit
set_option linter.unusedVariables false
theorem own_rows {α : Type} [Inhabited α] {w : World} {B : Nat} {ty : TypeId} {k g cap : Nat} {cs : α → List Value} {ok : World → α → Prop} {L : List α} (hcs : ∀ a, (cs a).length = k) (h : w.ownsRow B ty k (.slice (some ⟨g, 0, none⟩) L.length cap) L.length (L.flatMap cs)) (hok : ∀ d ∈ L, ok w d) : RowsOf w k cs ok (some ⟨g, 0, none⟩) cap L := by
 obtain ⟨g', c', cur, h1, h3, h4, hgw⟩ : ∃ g' c' cur, Value.slice (some ⟨g, 0, none⟩) L.length cap = .slice (some ⟨g', 0, none⟩) L.length c' ∧ L.length ≤ c' ∧ c' ≤ maxLen ∧ w.heap[g']? = some (.cells cur ty (0, 0)) := by
  rcases h.2 with ⟨h1, _⟩ | ⟨g', c', cur, h1, _, h2, h3, h4, _⟩
  ·cases h1
  ·exact ⟨g', c', cur, h1, h3, h4, h2⟩
 simp only [Value.slice.injEq, Option.some.injEq, Addr.mk.injEq] at h1
 obtain ⟨⟨rfl, _⟩, _, rfl⟩ := h1
 refine ⟨h3, h4, (fun e => by cases e), hok, Or.inr ⟨g, 0, rfl, some_lt hgw, fun i hi r hr => ?_⟩⟩
 rw [Nat.zero_add]
 have hlt : i * k + r < L.length * k := by
  have h1 : (i + 1) * k ≤ L.length * k := Nat.mul_le_mul_right k hi
  rw [Nat.succ_mul] at h1
  omega
 exact (h.cellAt (i * k + r) hlt).trans (flat_at cs k hcs L i r hi hr)
def OneMore {α : Type} (ty : TypeId) (k : Nat) (cs : α → List Value) (ok : World → α → Prop) (w W : World) (Y : Nat) (o0 : Option Addr) (c0 : Nat) (L0 : List α) (o : Option Addr) (c : Nat) (L : List α) : Prop :=
 (o = o0 ∧ c = c0 ∧ L = L0) ∨ ∃ g B d, o = some ⟨g, 0, none⟩ ∧ g ≠ Y ∧ L = L0 ++ [d] ∧ ok w d ∧ w.heap.size ≤ g ∧ g < W.heap.size ∧ W.ownsRow B ty k (.slice (some ⟨g, 0, none⟩) L.length c) L.length (L.flatMap cs)
section
variable {α : Type} {ty : TypeId} {k : Nat} {cs : α → List Value} {ok : World → α → Prop} {w W W' : World} {Y : Nat} {o0 : Option Addr} {c0 : Nat} {L0 : List α} {o : Option Addr} {c : Nat} {L : List α}
theorem OneMore.under (h : OneMore ty k cs ok w W Y o0 c0 L0 o c L) (hb : Below W.heap.size W W') : OneMore ty k cs ok w W' Y o0 c0 L0 o c L := by
 rcases h with h | ⟨g, B, d, h1, h2, h3, h4, h5, h6, h7⟩
 ·exact Or.inl h
 ·exact Or.inr ⟨g, B, d, h1, h2, h3, h4, h5, Nat.lt_of_lt_of_le h6 hb.size, own_below h7 hb⟩
theorem OneMore.chg (h : OneMore ty k cs ok w W Y o0 c0 L0 o c L) {P : Nat} (hb : Chg P W W') (hP : P = Y ∨ W.heap.size ≤ P ∨ ∀ g, o = some ⟨g, 0, none⟩ → g ≠ P) : OneMore ty k cs ok w W' Y o0 c0 L0 o c L := by
 rcases h with h | ⟨g, B, d, h1, h2, h3, h4, h5, h6, h7⟩
 ·exact Or.inl h
 ·refine Or.inr ⟨g, B, d, h1, h2, h3, h4, h5, Nat.lt_of_lt_of_le h6 hb.size, own_chg h7 hb ?_⟩
  have : g ≠ P := by
   rcases hP with rfl | hP | hP
   ·exact h2
   ·omega
   ·exact hP g h1
  simp only [Value.ownBlock, ne_eq, Option.some.injEq]
  exact this
theorem OneMore.list (h : OneMore ty k cs ok w W Y o0 c0 L0 o c L) : ∃ dl, L = L0 ++ dl := by
 rcases h with h | ⟨g, B, d, _, _, h3, _⟩
 ·exact ⟨[], by rw [h.2.2, List.append_nil]⟩
 ·exact ⟨[d], h3⟩
theorem OneMore.rows [Inhabited α] (hcs : ∀ a, (cs a).length = k) (h : OneMore ty k cs ok w W Y o0 c0 L0 o c L) (hb : Below w.heap.size w W) (hok : ∀ d, ok w d → ok W d) (h0 : RowsOf w k cs ok o0 c0 L0) : RowsOf W k cs ok o c L := by
 rcases h with ⟨rfl, rfl, rfl⟩ | ⟨g, B, d, rfl, h2, rfl, h4, h5, h6, h7⟩
 ·exact h0.below hok hb
 ·refine own_rows hcs h7 fun x hx => ?_
  rcases List.mem_append.1 hx with q | q
  ·exact hok x (h0.all x q)
  ·obtain rfl : x = d := by simpa using q
   exact hok x h4
end
end Go.Proofs.YtgleeocebnjliaaGreatDoor
namespace Go.Proofs.YtgleeocebnjliaaGreatDoor
open Go.RowKit
set_option linter.unusedVariables false
structure BX (m : ModD) (td : SigD) (gd : GloD) (w W : World) : Prop where
 b0 : W.heap[w.heap.size]? = some (.cells #[.slice m.oT m.types.length m.cT, .slice m.oI m.imports.length m.cI, .slice m.oF m.funcs.length m.cF, .int .i64 m.table, .int .i64 m.pages, .int .i64 m.most, .slice m.oG m.globals.length m.cG, .slice m.oE m.exports.length m.cE, .int .i64 m.start, .slice m.oL m.elems.length m.cL, .slice m.oD m.data.length m.cD] 30 (0, 0))
 b1 : W.heap[w.heap.size + 1]? = some (.cells #[.slice td.i.o td.i.n td.i.cap, .slice td.r.o td.r.n td.r.cap] 46 (0, 0))
 b2 : W.heap[w.heap.size + 2]? = some (.cells #[.int .u8 gd.k, .bool gd.m, .int .i64 gd.s] 49 (0, 0))
 bel : Below w.heap.size w W
 sz : w.heap.size + 3 ≤ W.heap.size
section
variable {m : ModD} {td : SigD} {gd : GloD} {w W W' : World}
theorem BX.first (m : ModD) (td : SigD) (gd : GloD) (w : World) : BX m td gd w (((w.alloc (.cells #[.slice m.oT m.types.length m.cT, .slice m.oI m.imports.length m.cI, .slice m.oF m.funcs.length m.cF, .int .i64 m.table, .int .i64 m.pages, .int .i64 m.most, .slice m.oG m.globals.length m.cG, .slice m.oE m.exports.length m.cE, .int .i64 m.start, .slice m.oL m.elems.length m.cL, .slice m.oD m.data.length m.cD] 30)).alloc (.cells #[.slice td.i.o td.i.n td.i.cap, .slice td.r.o td.r.n td.r.cap] 46)).alloc (.cells #[.int .u8 gd.k, .bool gd.m, .int .i64 gd.s] 49)) := by
 have s0 : (w.alloc (.cells #[.slice m.oT m.types.length m.cT, .slice m.oI m.imports.length m.cI, .slice m.oF m.funcs.length m.cF, .int .i64 m.table, .int .i64 m.pages, .int .i64 m.most, .slice m.oG m.globals.length m.cG, .slice m.oE m.exports.length m.cE, .int .i64 m.start, .slice m.oL m.elems.length m.cL, .slice m.oD m.data.length m.cD] 30)).heap.size = w.heap.size + 1 := by simp
 have s1 : ((w.alloc (.cells #[.slice m.oT m.types.length m.cT, .slice m.oI m.imports.length m.cI, .slice m.oF m.funcs.length m.cF, .int .i64 m.table, .int .i64 m.pages, .int .i64 m.most, .slice m.oG m.globals.length m.cG, .slice m.oE m.exports.length m.cE, .int .i64 m.start, .slice m.oL m.elems.length m.cL, .slice m.oD m.data.length m.cD] 30)).alloc (.cells #[.slice td.i.o td.i.n td.i.cap, .slice td.r.o td.r.n td.r.cap] 46)).heap.size = w.heap.size + 2 := by simp
 have b1 : Below (w.alloc (.cells #[.slice m.oT m.types.length m.cT, .slice m.oI m.imports.length m.cI, .slice m.oF m.funcs.length m.cF, .int .i64 m.table, .int .i64 m.pages, .int .i64 m.most, .slice m.oG m.globals.length m.cG, .slice m.oE m.exports.length m.cE, .int .i64 m.start, .slice m.oL m.elems.length m.cL, .slice m.oD m.data.length m.cD] 30)).heap.size (w.alloc (.cells #[.slice m.oT m.types.length m.cT, .slice m.oI m.imports.length m.cI, .slice m.oF m.funcs.length m.cF, .int .i64 m.table, .int .i64 m.pages, .int .i64 m.most, .slice m.oG m.globals.length m.cG, .slice m.oE m.exports.length m.cE, .int .i64 m.start, .slice m.oL m.elems.length m.cL, .slice m.oD m.data.length m.cD] 30)) (((w.alloc (.cells #[.slice m.oT m.types.length m.cT, .slice m.oI m.imports.length m.cI, .slice m.oF m.funcs.length m.cF, .int .i64 m.table, .int .i64 m.pages, .int .i64 m.most, .slice m.oG m.globals.length m.cG, .slice m.oE m.exports.length m.cE, .int .i64 m.start, .slice m.oL m.elems.length m.cL, .slice m.oD m.data.length m.cD] 30)).alloc (.cells #[.slice td.i.o td.i.n td.i.cap, .slice td.r.o td.r.n td.r.cap] 46)).alloc (.cells #[.int .u8 gd.k, .bool gd.m, .int .i64 gd.s] 49)) := ((Below.refl _ _).alloc (Nat.le_refl _) _).alloc (by rw [s1, s0]; omega) _
 have b2 : Below ((w.alloc (.cells #[.slice m.oT m.types.length m.cT, .slice m.oI m.imports.length m.cI, .slice m.oF m.funcs.length m.cF, .int .i64 m.table, .int .i64 m.pages, .int .i64 m.most, .slice m.oG m.globals.length m.cG, .slice m.oE m.exports.length m.cE, .int .i64 m.start, .slice m.oL m.elems.length m.cL, .slice m.oD m.data.length m.cD] 30)).alloc (.cells #[.slice td.i.o td.i.n td.i.cap, .slice td.r.o td.r.n td.r.cap] 46)).heap.size ((w.alloc (.cells #[.slice m.oT m.types.length m.cT, .slice m.oI m.imports.length m.cI, .slice m.oF m.funcs.length m.cF, .int .i64 m.table, .int .i64 m.pages, .int .i64 m.most, .slice m.oG m.globals.length m.cG, .slice m.oE m.exports.length m.cE, .int .i64 m.start, .slice m.oL m.elems.length m.cL, .slice m.oD m.data.length m.cD] 30)).alloc (.cells #[.slice td.i.o td.i.n td.i.cap, .slice td.r.o td.r.n td.r.cap] 46)) (((w.alloc (.cells #[.slice m.oT m.types.length m.cT, .slice m.oI m.imports.length m.cI, .slice m.oF m.funcs.length m.cF, .int .i64 m.table, .int .i64 m.pages, .int .i64 m.most, .slice m.oG m.globals.length m.cG, .slice m.oE m.exports.length m.cE, .int .i64 m.start, .slice m.oL m.elems.length m.cL, .slice m.oD m.data.length m.cD] 30)).alloc (.cells #[.slice td.i.o td.i.n td.i.cap, .slice td.r.o td.r.n td.r.cap] 46)).alloc (.cells #[.int .u8 gd.k, .bool gd.m, .int .i64 gd.s] 49)) := (Below.refl _ _).alloc (Nat.le_refl _) _
 refine ⟨(b1.block w.heap.size (by rw [s0]; omega)).trans (new_block w _), (b2.block (w.heap.size + 1) (by rw [s1]; omega)).trans (new_block' _ _ _ _ (by rw [s0])), new_block' _ _ _ _ (by rw [s1]), ((((Below.refl _ _).alloc (Nat.le_refl _) _).alloc (by simp) _).alloc (by simp; omega) _), by simp⟩
theorem BX.under (h : BX m td gd w W) (b : Below W.heap.size W W') : BX m td gd w W' := by
 have := h.sz
 exact ⟨(b.block _ (by omega)).trans h.b0, (b.block _ (by omega)).trans h.b1, (b.block _ (by omega)).trans h.b2, h.bel.trans (b.mono h.bel.size), Nat.le_trans h.sz b.size⟩
theorem BX.drew (h : BX m td gd w W) : BX m td gd w W.drew := h.under (Below.refl _ _).drew
theorem BX.alloc (h : BX m td gd w W) (c : Obj) : BX m td gd w (W.alloc c) := h.under ((Below.refl _ _).alloc (Nat.le_refl _) _)
theorem BX.chg (h : BX m td gd w W) {P : Nat} (b : Chg P W W') (hP : w.heap.size + 3 ≤ P) : BX m td gd w W' := by
 have := h.sz
 exact ⟨(b.block _ (by omega) (by omega)).trans h.b0, (b.block _ (by omega) (by omega)).trans h.b1, (b.block _ (by omega) (by omega)).trans h.b2, h.bel.trans (b.below (by omega) (by omega)), Nat.le_trans h.sz b.size⟩
end
end Go.Proofs.YtgleeocebnjliaaGreatDoor
namespace Go.Proofs.YtgleeocebnjliaaGreatDoor
open Go.RowKit
set_option linter.unusedVariables false
theorem sig_below {w W : World} (b : Below w.heap.size w W) (d : SigD) (h : SigD.ok w d) : SigD.ok W d := ⟨h.1.below b, h.2.below b⟩
theorem more_D {m : ModD} {w Z : World} {Y : Nat} {oT : Option Addr} {cT : Nat} {LT : List SigD} {oG : Option Addr} {cG : Nat} {LG : List GloD} {oF : Option Addr} {cF : Nat} {LF : List FunD} (hm : m.ok w) (hb : Below w.heap.size w Z) (hT : OneMore 46 2 SigD.cells SigD.ok w Z Y m.oT m.cT m.types oT cT LT) (hG : OneMore 49 3 GloD.cells GloD.ok w Z Y m.oG m.cG m.globals oG cG LG)
  (hF : RowsOf Z 3 FunD.cells FunD.ok oF cF LF) (hl : LF.length = m.funcs.length) (hfl : ∀ k : Nat, (LF[k]!).t = (m.funcs[k]!).t ∧ (LF[k]!).b = (m.funcs[k]!).b ∧ ∃ dl, (LF[k]!).l.xs = (m.funcs[k]!).l.xs ++ dl) :
  ModD.ok Z { m with oT := oT, cT := cT, types := LT, oG := oG, cG := cG, globals := LG, oF := oF, cF := cF, funcs := LF } ∧ More m { m with oT := oT, cT := cT, types := LT, oG := oG, cG := cG, globals := LG, oF := oF, cF := cF, funcs := LF } := by
 have h5 := hm.below hb
 exact ⟨⟨hT.rows (fun _ => rfl) hb (sig_below hb) hm.types, h5.imports, hF, h5.table, h5.pages, h5.most, hG.rows (fun _ => rfl) hb (fun _ h => h) hm.globals, h5.exports, h5.start, h5.elems, h5.data⟩,
  ⟨hT.list, rfl, hl, fun k => (hfl k).1, fun k => (hfl k).2.1, fun k => (hfl k).2.2, hG.list, rfl, rfl, rfl, rfl, rfl, rfl⟩⟩
theorem set_first {m : ModD} {gF cF B : Nat} {d : FunD} {w X : World} (hm : m.ok w) (hj : 0 < m.funcs.length) (hX : Below w.heap.size w X) (hgw : w.heap.size ≤ gF) (hrow : X.ownsRow B 57 3 (.slice (some ⟨gF, 0, none⟩) m.funcs.length cF) m.funcs.length (m.funcs.flatMap FunD.cells)) (v0 v1 v2 : Value) (hv : [v0, v1, v2] = FunD.cells d)
  (hd : d.ok (((X.setCell ⟨gF, 0, none⟩ v0).setCell ⟨gF, 1, none⟩ v1).setCell ⟨gF, 2, none⟩ v2)) :
  RowsOf (((X.setCell ⟨gF, 0, none⟩ v0).setCell ⟨gF, 1, none⟩ v1).setCell ⟨gF, 2, none⟩ v2) 3 FunD.cells FunD.ok (some ⟨gF, 0, none⟩) cF (m.funcs.set 0 d) ∧ Chg gF X (((X.setCell ⟨gF, 0, none⟩ v0).setCell ⟨gF, 1, none⟩ v1).setCell ⟨gF, 2, none⟩ v2) ∧ Below w.heap.size w (((X.setCell ⟨gF, 0, none⟩ v0).setCell ⟨gF, 1, none⟩ v1).setCell ⟨gF, 2, none⟩ v2) := by
 obtain ⟨_, cur, hcur⟩ := own_block hrow gF rfl
 have hch : Chg gF X (((X.setCell ⟨gF, 0, none⟩ v0).setCell ⟨gF, 1, none⟩ v1).setCell ⟨gF, 2, none⟩ v2) := ((Chg.set _ _ _ _).trans (Chg.set _ _ _ _)).trans (Chg.set _ _ _ _)
 have hz : Below w.heap.size w (((X.setCell ⟨gF, 0, none⟩ v0).setCell ⟨gF, 1, none⟩ v1).setCell ⟨gF, 2, none⟩ v2) := hX.trans (hch.below hgw hX.size)
 have hsz : ∀ r, r < 3 → r < cur.size := fun r hr => by
  have a := flat_at FunD.cells 3 (fun _ => rfl) m.funcs 0 r hj hr
  rw [← hrow.cellAt (0 * 3 + r) (by omega)] at a
  simp only [Nat.zero_mul, Nat.zero_add, World.cell?, hcur] at a
  apply Nat.lt_of_not_le
  intro hle
  rw [Array.getElem?_eq_none hle] at a
  have h3 : r = 0 ∨ r = 1 ∨ r = 2 := by omega
  rcases h3 with rfl | rfl | rfl <;> simp [FunD.cells] at a
 have h0 := hsz 0 (by omega)
 have h1 := hsz 1 (by omega)
 have h2 := hsz 2 (by omega)
 have hok := set_ok (j := 0) (d := d) hm hj hz hrow hd (fun i r hi hr => by
   have e0 : 0 ≠ i * 3 + r := by omega
   have e1 : 1 ≠ i * 3 + r := by omega
   have e2 : 2 ≠ i * 3 + r := by omega
   simp [World.cell?, World.setCell, Array.getElem?_modify, hcur, e0, e1, e2]) (fun r hr => by
   rw [← hv]
   have h3 : r = 0 ∨ r = 1 ∨ r = 2 := by omega
   rcases h3 with rfl | rfl | rfl <;> simp [World.cell?, World.setCell, Array.getElem?_modify, hcur, h0, h1, h2]) (by have := hch.size; have := some_lt hcur; omega)
 exact ⟨hok.funcs, hch, hz⟩
end Go.Proofs.YtgleeocebnjliaaGreatDoor
namespace Go.Proofs.YtgleeocebnjliaaGreatDoor
open Go.RowKit
set_option linter.unusedVariables false
theorem flat_one {α : Type} (cs : α → List Value) (h : ∀ a, ∀ u ∈ cs a, u.oneCell' = true) (L : List α) : ∀ u ∈ L.flatMap cs, u.oneCell' = true := by
 intro u hu
 obtain ⟨d, _, hd⟩ := List.mem_flatMap.1 hu
 exact h d u hd
theorem flat_len {α : Type} (cs : α → List Value) (k : Nat) (h : ∀ a, (cs a).length = k) (L : List α) : (L.flatMap cs).length = L.length * k := by
 induction L with
 | nil => simp
 | cons x L ih => rw [List.flatMap_cons, List.length_append, ih, h, List.length_cons, Nat.succ_mul]; omega
theorem rows_all {α : Type} {w : World} {k : Nat} (hk : 0 < k) {cs : α → List Value} (hcs : ∀ a, (cs a).length = k) {ok : World → α → Prop} {o : Option Addr} {cap : Nat} {L : List α} (h : RowsOf w k cs ok o cap L) : L.length = 0 ∨ ∃ a : Addr, o = some a ∧ ∀ j u, (L.flatMap cs)[j]? = some u → w.cell? (a.add j) = some u := by
 rcases h.at' with h0 | ⟨b, f, h1, h2, h3⟩
 ·exact Or.inl (by rw [h0]; rfl)
 ·have hadd : ∀ n : Nat, (⟨b, f, none⟩ : Addr).add n = ⟨b, f + n, none⟩ := fun n => by unfold Addr.add; split <;> simp_all
  refine Or.inr ⟨_, h1, fun j u hu => ?_⟩
  have hlt : j < L.length * k := by
   rw [← flat_len cs k hcs]
   exact (List.getElem?_eq_some_iff.1 hu).1
  have hi : j / k < L.length := Nat.div_lt_of_lt_mul (by rw [Nat.mul_comm]; exact hlt)
  have hr : j % k < k := Nat.mod_lt _ hk
  have he : j = j / k * k + j % k := by rw [Nat.mul_comm]; exact (Nat.div_add_mod j k).symm
  rw [he, flat_at cs k hcs L (j / k) (j % k) hi hr] at hu
  have := h3 (j / k) hi (j % k) hr
  rw [hadd, he, ← Nat.add_assoc, this]
  exact hu
theorem num_news {k : IntKind} {w : World} {d : NumD} (h : d.ok k w) : d.n = 0 ∨ ∃ a : Addr, d.o = some a ∧ ∀ j u, (d.xs.map (Value.int k))[j]? = some u → w.cell? (a.add j) = some u := by
 rcases h.at' with h0 | ⟨a, h1, h2, h3⟩
 ·exact Or.inl h0
 ·refine Or.inr ⟨a, h1, fun j u hu => ?_⟩
  rw [List.getElem?_map] at hu
  obtain ⟨x, hx, rfl⟩ := Option.map_eq_some_iff.1 hu
  have hj : j < d.n := by rw [← h.len]; exact (List.getElem?_eq_some_iff.1 hx).1
  rw [h3 j hj, List.getD_eq_getElem?_getD, hx]
  rfl
end Go.Proofs.YtgleeocebnjliaaGreatDoor
