/-
 A module that is handed in, opened, with how many parts it may have.
-/
import Derived.Test.YtmemiohompdibaaGreatDoorAQO
import Derived.Test.YtmemiohompdibaaGreatDoorRows
set_option maxHeartbeats 1000000
set_option maxRecDepth 100000
namespace Go.Proofs.YtmemiohompdibaaGreatDoor
set_option linter.unusedVariables false
open Go.ChangeShapes Go.WideShapes Go.ChangeAt Go.RowKit Go.Deep
theorem bulk_one {H : Type} (d : DataW H) : 1 ≤ Rows.uptoBulk d := by
 cases d with
 | lit l => cases l <;> simp [Rows.uptoBulk]
 | nil => simp [Rows.uptoBulk]
 | ptr d => simp [Rows.uptoBulk]
 | slice elems spare => simp [Rows.uptoBulk]
 | agg parts => simp [Rows.uptoBulk]
 | iface t d => simp [Rows.uptoBulk]
 | map entries => simp [Rows.uptoBulk]
 | held h => simp [Rows.uptoBulk]
theorem bulk_part {H : Type} {d : DataW H} {l : List (DataW H)} (h : d ∈ l) : Rows.uptoBulk d ≤ Rows.uptoBulkAll l := by
 induction l with
 | nil => cases h
 | cons x r ih =>
  simp only [Rows.uptoBulkAll]
  cases List.mem_cons.1 h with
  | inl e => subst e; omega
  | inr e => have := ih e; omega
theorem bulk_len {H : Type} (l : List (DataW H)) : l.length ≤ Rows.uptoBulkAll l := by
 induction l with
 | nil => simp [Rows.uptoBulkAll]
 | cons x r ih => have := bulk_one x; simp only [Rows.uptoBulkAll, List.length_cons]; omega
section
variable {H : Type} {enc : TypeId × Value → H} {W : World}
theorem open_numsS {k : IntKind} {t e : TypeId} {fuel : Nat} {c : Value} {x : DataW H × List MemPlace} (ht : Tryz.prog.underlying t = some (.slice e)) (he : Tryz.prog.underlying e = some (.int k)) (hc : Tryz.prog.cellsOf e = 1)
  (hf : DataW.trod enc Tryz.prog W 0 (fun _ => true) true fuel t [c] = some x) : ∃ d : NumD, c = d.v ∧ d.ok k W ∧ d.n ≤ Rows.uptoBulk x.1 := by
 obtain ⟨d, rfl, hd⟩ := open_nums ht he hc hf
 refine ⟨d, rfl, hd, ?_⟩
 rcases open_slice ht hf with ⟨e, _⟩ | ⟨a, len0, cap0, m, n, D, Pl, e, _, _, _, _, rfl, _⟩
 ·simp only [NumD.v, List.cons.injEq, Value.slice.injEq, and_true] at e
  rw [e.2.1]
  exact Nat.zero_le _
 ·simp only [NumD.v, List.cons.injEq, Value.slice.injEq, and_true] at e
  rw [e.2.1]
  have := bulk_len ((List.range len0).map D)
  rw [List.length_map, List.length_range] at this
  simp only [Rows.uptoBulk]
  omega
theorem open_rowsS {α : Type} [Inhabited α] {t e : TypeId} (k : Nat) (hk : 0 < k) (ht : Tryz.prog.underlying t = some (.slice e)) (hc : Tryz.prog.cellsOf e = k) (cs : α → List Value) (ok : World → α → Prop) (sm : α → Nat → Prop) (hsm : ∀ a b b', sm a b → b ≤ b' → sm a b') (hl : ∀ a, (cs a).length = k)
  (ho : ∀ (fuel : Nat) (l : List Value) (x : DataW H × List MemPlace), l.length = k → DataW.trod enc Tryz.prog W 0 (fun _ => true) true fuel e l = some x → ∃ a, l = cs a ∧ ok W a ∧ sm a (Rows.uptoBulk x.1))
  {fuel : Nat} {c : Value} {x : DataW H × List MemPlace} (hf : DataW.trod enc Tryz.prog W 0 (fun _ => true) true fuel t [c] = some x) :
  ∃ (o : Option Addr) (cap : Nat) (L : List α), c = .slice o L.length cap ∧ RowsOf W k cs ok o cap L ∧ L.length ≤ Rows.uptoBulk x.1 ∧ ∀ d ∈ L, sm d (Rows.uptoBulk x.1) := by
 rcases open_slice ht hf with ⟨e, _⟩ | ⟨a, len0, cap0, m, n, D, Pl, e, _, hlc, hcm, hm, rfl, hall⟩
 ·simp only [List.cons.injEq, and_true] at e
  subst e
  exact ⟨none, 0, [], rfl, ⟨by simp, by unfold maxLen; omega, fun _ => rfl, by simp, Or.inl rfl⟩, Nat.zero_le _, by simp⟩
 ·simp only [List.cons.injEq, and_true] at e
  subst e
  rw [hc] at hall
  have hm2 : len0 ≤ m := by rw [hm]; split <;> omega
  obtain ⟨Dd, hD⟩ := choose_lt (α := α) (n := len0) (p := fun i d => (∀ r, r < k → W.cell? ((a.add (i * k)).add r) = (cs d)[r]?) ∧ ok W d ∧ sm d (Rows.uptoBulk (D i))) (fun i hi => by
   obtain ⟨cs', h1, h2⟩ := hall i (by omega)
   obtain ⟨_, hl', hc'⟩ := World.cells?_some h1
   obtain ⟨d, rfl, hok, hs⟩ := ho _ _ _ hl' h2
   exact ⟨d, fun r hr => hc' r hr, hok, hs⟩)
  have hL : ((List.range len0).map Dd).length = len0 := by simp
  have hget : ∀ i (h : i < ((List.range len0).map Dd).length), ((List.range len0).map Dd)[i] = Dd i := by intro i h; simp
  have hbl := bulk_len ((List.range len0).map D)
  rw [List.length_map, List.length_range] at hbl
  refine ⟨some a, cap0, (List.range len0).map Dd, by rw [hL], ⟨by rw [hL]; exact hlc, hcm, fun h => by (cases h), ?_, ?_⟩, by rw [hL]; simp only [Rows.uptoBulk]; omega, ?_⟩
  ·intro d hd
   obtain ⟨i, hi, rfl⟩ := List.mem_map.1 hd
   exact (hD i (by simpa using hi)).2.1
  ·by_cases h0 : len0 = 0
   ·left
    subst h0
    rfl
   ·right
    obtain ⟨b, f, sp⟩ := a
    have hc0 := (hD 0 (by omega)).1 0 hk
    rw [List.getElem?_eq_getElem (by rw [hl]; exact hk)] at hc0
    have hsp : sp = none := by simpa [Addr.add] using World.cell?_spot hc0
    subst hsp
    have hadd : ∀ k : Nat, (⟨b, f, none⟩ : Addr).add k = ⟨b, f + k, none⟩ := by intro k; unfold Addr.add; split <;> simp_all
    have hadd2 : ∀ k j : Nat, ((⟨b, f, none⟩ : Addr).add k).add j = ⟨b, f + k + j, none⟩ := by
     intro k j
     rw [hadd]
     unfold Addr.add
     split <;> simp_all
    refine ⟨b, f, rfl, ?_, fun i hi r hr => ?_⟩
    ·apply Nat.lt_of_not_le
     intro hle
     have : W.heap[b]? = none := Array.getElem?_eq_none hle
     rw [hadd2] at hc0
     simp [World.cell?, this] at hc0
    ·rw [hget i hi]
     have := (hD i (by rw [hL] at hi; exact hi)).1 r hr
     rw [hadd2] at this
     exact this
  ·intro d hd
   obtain ⟨i, hi, rfl⟩ := List.mem_map.1 hd
   have hi' : i < len0 := by simpa using hi
   refine hsm _ _ _ (hD i hi').2.2 ?_
   have := bulk_part (List.mem_map_of_mem (f := D) hi)
   simp only [Rows.uptoBulk]
   omega
def smSig (d : SigD) (b : Nat) : Prop := d.i.n ≤ b ∧ d.r.n ≤ b
def smFun (d : FunD) (b : Nat) : Prop := d.l.n ≤ b
def smEle (d : EleD) (b : Nat) : Prop := d.f.n ≤ b
theorem bulk_agg {y : DataW H × List MemPlace} {ys : List (DataW H × List MemPlace)} (h : y ∈ ys) : Rows.uptoBulk y.1 ≤ Rows.uptoBulk (DataW.agg (ys.map (·.1))) := by
 have := bulk_part (List.mem_map_of_mem (f := fun z : DataW H × List MemPlace => z.1) h)
 simp only [Rows.uptoBulk]
 omega
theorem open_sigS (fuel : Nat) (l : List Value) (x : DataW H × List MemPlace) (hl : l.length = 2) (hf : DataW.trod enc Tryz.prog W 0 (fun _ => true) true fuel 57 l = some x) : ∃ a : SigD, l = a.cells ∧ a.ok W ∧ smSig a (Rows.uptoBulk x.1) := by
 obtain ⟨c0, c1, rfl⟩ := list_two l hl
 obtain ⟨ys, m, _, hx, _, hyl, hall⟩ := DataW.trod_struct Tryz.underlying57 hf
 obtain ⟨y0, y1, rfl⟩ := list_two ys hyl
 have g0 := hall 0 _ rfl
 have g1 := hall 1 _ rfl
 simp [cellsKinds] at g0 g1
 obtain ⟨d0, rfl, h0, s0⟩ := open_numsS Tryz.underlying41 Tryz.underlying58 cellsKind g0
 obtain ⟨d1, rfl, h1, s1⟩ := open_numsS Tryz.underlying41 Tryz.underlying58 cellsKind g1
 have b0 := bulk_agg (y := y0) (ys := [y0, y1]) (by simp)
 have b1 := bulk_agg (y := y1) (ys := [y0, y1]) (by simp)
 rw [hx]
 exact ⟨⟨d0, d1⟩, rfl, ⟨h0, h1⟩, Nat.le_trans s0 b0, Nat.le_trans s1 b1⟩
theorem open_eleS (fuel : Nat) (l : List Value) (x : DataW H × List MemPlace) (hl : l.length = 2) (hf : DataW.trod enc Tryz.prog W 0 (fun _ => true) true fuel 78 l = some x) : ∃ a : EleD, l = a.cells ∧ a.ok W ∧ smEle a (Rows.uptoBulk x.1) := by
 obtain ⟨c0, c1, rfl⟩ := list_two l hl
 obtain ⟨ys, m, _, hx, _, hyl, hall⟩ := DataW.trod_struct Tryz.underlying78 hf
 obtain ⟨y0, y1, rfl⟩ := list_two ys hyl
 have g0 := hall 0 _ rfl
 have g1 := hall 1 _ rfl
 simp [cellsInt, cellsInts] at g0 g1
 obtain ⟨n, e0, _, wn⟩ := DataW.trod_int Tryz.underlying3 g0
 obtain ⟨d1, rfl, h1, s1⟩ := open_numsS Tryz.underlying76 Tryz.underlying3 cellsInt g1
 simp only [List.cons.injEq, and_true] at e0
 subst e0
 have b1 := bulk_agg (y := y1) (ys := [y0, y1]) (by simp)
 rw [hx]
 exact ⟨⟨n, d1⟩, rfl, ⟨bounds_i64 wn, h1⟩, Nat.le_trans s1 b1⟩
theorem open_funS (fuel : Nat) (l : List Value) (x : DataW H × List MemPlace) (hl : l.length = 3) (hf : DataW.trod enc Tryz.prog W 0 (fun _ => true) true fuel 50 l = some x) : ∃ a : FunD, l = a.cells ∧ a.ok W ∧ smFun a (Rows.uptoBulk x.1) := by
 obtain ⟨c0, c1, c2, rfl⟩ := list_three l hl
 obtain ⟨ys, m, _, hx, _, hyl, hall⟩ := DataW.trod_struct Tryz.underlying50 hf
 obtain ⟨y0, y1, y2, rfl⟩ := list_three ys hyl
 have g0 := hall 0 _ rfl
 have g1 := hall 1 _ rfl
 have g2 := hall 2 _ rfl
 simp [cellsInt, cellsKinds, cellsBody] at g0 g1 g2
 obtain ⟨n, e0, _, wn⟩ := DataW.trod_int Tryz.underlying3 g0
 obtain ⟨d1, rfl, h1, s1⟩ := open_numsS Tryz.underlying41 Tryz.underlying58 cellsKind g1
 obtain ⟨o, cap, L, rfl, hL⟩ := open_body g2
 simp only [List.cons.injEq, and_true] at e0
 subst e0
 have b1 := bulk_agg (y := y1) (ys := [y0, y1, y2]) (by simp)
 rw [hx]
 exact ⟨⟨n, d1, o, cap, L⟩, rfl, ⟨bounds_i64 wn, h1, hL⟩, Nat.le_trans s1 b1⟩
end
structure SmallM (m : ModD) (b : Nat) : Prop where
 types : m.types.length ≤ b
 imports : m.imports.length ≤ b
 funcs : m.funcs.length ≤ b
 globals : m.globals.length ≤ b
 exports : m.exports.length ≤ b
 elems : m.elems.length ≤ b
 data : m.data.length ≤ b
 sig : ∀ d ∈ m.types, smSig d b
 fn : ∀ d ∈ m.funcs, smFun d b
 ele : ∀ d ∈ m.elems, smEle d b
theorem sm_true {α : Type} : ∀ (a : α) (b b' : Nat), (fun _ _ => True) a b → b ≤ b' → (fun (_ : α) (_ : Nat) => True) a b' := fun _ _ _ _ _ => trivial
theorem open_moduleS {H : Type} {enc : TypeId × Value → H} {W : World} {base : Nat} {v0 : Value} {d0 : DataW H} {p0 : List MemPlace} (hv : Value.okWide Tryz.prog W .any base 30 v0) (h0 : DataW.Trod enc Tryz.prog W 0 (fun _ => true) true 30 v0 d0 p0) :
  ∃ m : ModD, v0 = m.v ∧ m.ok W ∧ SmallM m (Rows.uptoBulk d0) := by
 obtain ⟨cs, rfl, hcs⟩ := okWide_struct (P := Tryz.prog) (w := W) (r := .any) (base := base) (t := 30) (v := v0) Tryz.underlying30 hv
 rw [cellsMod] at hcs
 obtain ⟨l⟩ := cs
 obtain ⟨c0, c1, c2, c3, c4, c5, c6, c7, c8, c9, c10, rfl⟩ := list_eleven l hcs
 obtain ⟨fuel, hf⟩ := h0
 obtain ⟨ys, m, _, hx, _, hyl, hall⟩ := DataW.trod_struct Tryz.underlying30 hf
 obtain ⟨y0, y1, y2, y3, y4, y5, y6, y7, y8, y9, y10, rfl⟩ := list_eleven ys hyl
 have hd : d0 = DataW.agg ([y0, y1, y2, y3, y4, y5, y6, y7, y8, y9, y10].map (·.1)) := congrArg Prod.fst hx
 have bb : ∀ y ∈ [y0, y1, y2, y3, y4, y5, y6, y7, y8, y9, y10], Rows.uptoBulk y.1 ≤ Rows.uptoBulk d0 := fun y hy => by rw [hd]; exact bulk_agg hy
 have g0 := hall 0 _ rfl
 have g1 := hall 1 _ rfl
 have g2 := hall 2 _ rfl
 have g3 := hall 3 _ rfl
 have g4 := hall 4 _ rfl
 have g5 := hall 5 _ rfl
 have g6 := hall 6 _ rfl
 have g7 := hall 7 _ rfl
 have g8 := hall 8 _ rfl
 have g9 := hall 9 _ rfl
 have g10 := hall 10 _ rfl
 clear hall hx hf hv hd
 simp [Value.cells, cellsSigs, cellsImps, cellsFuns, cellsInt, cellsGlos, cellsExps, cellsEles, cellsDats] at g0 g1 g2 g3 g4 g5 g6 g7 g8 g9 g10
 obtain ⟨oT, cT, tl, rfl, hT, zT, sT⟩ := open_rowsS 2 (by omega) Tryz.underlying22 cellsSig SigD.cells SigD.ok smSig (fun _ _ _ h k => ⟨Nat.le_trans h.1 k, Nat.le_trans h.2 k⟩) (fun _ => rfl) open_sigS g0
 obtain ⟨oI, cI, il, rfl, hI, zI, _⟩ := open_rowsS 2 (by omega) Tryz.underlying23 cellsImp NamD.cells NamD.ok (fun _ _ => True) sm_true (fun _ => rfl) (fun f l x h1 h2 => let ⟨a, e, o⟩ := open_imp f l x h1 h2; ⟨a, e, o, trivial⟩) g1
 obtain ⟨oF, cF, fl, rfl, hF, zF, sF⟩ := open_rowsS 3 (by omega) Tryz.underlying24 cellsFun FunD.cells FunD.ok smFun (fun _ _ _ h k => Nat.le_trans h k) (fun _ => rfl) open_funS g2
 obtain ⟨table, e3, _, w3⟩ := DataW.trod_int Tryz.underlying3 g3
 obtain ⟨pages, e4, _, w4⟩ := DataW.trod_int Tryz.underlying3 g4
 obtain ⟨most, e5, _, w5⟩ := DataW.trod_int Tryz.underlying3 g5
 obtain ⟨oG, cG, gl, rfl, hG, zG, _⟩ := open_rowsS 3 (by omega) Tryz.underlying25 cellsGlo GloD.cells GloD.ok (fun _ _ => True) sm_true (fun _ => rfl) (fun f l x h1 h2 => let ⟨a, e, o⟩ := open_glo f l x h1 h2; ⟨a, e, o, trivial⟩) g6
 obtain ⟨oE, cE, el, rfl, hE, zE, _⟩ := open_rowsS 2 (by omega) Tryz.underlying26 cellsExp NamD.cells NamD.ok (fun _ _ => True) sm_true (fun _ => rfl) (fun f l x h1 h2 => let ⟨a, e, o⟩ := open_exp f l x h1 h2; ⟨a, e, o, trivial⟩) g7
 obtain ⟨start, e8, _, w8⟩ := DataW.trod_int Tryz.underlying3 g8
 obtain ⟨oL, cL, ll, rfl, hL, zL, sL⟩ := open_rowsS 2 (by omega) Tryz.underlying27 cellsEle EleD.cells EleD.ok smEle (fun _ _ _ h k => Nat.le_trans h k) (fun _ => rfl) open_eleS g9
 obtain ⟨oD, cD, dl, rfl, hD, zD, _⟩ := open_rowsS 2 (by omega) Tryz.underlying28 cellsDat DatD.cells DatD.ok (fun _ _ => True) sm_true (fun _ => rfl) (fun f l x h1 h2 => let ⟨a, e, o⟩ := open_dat f l x h1 h2; ⟨a, e, o, trivial⟩) g10
 simp only [List.cons.injEq, and_true] at e3 e4 e5 e8
 subst e3 e4 e5 e8
 have b0 := bb y0 (by simp)
 have b1 := bb y1 (by simp)
 have b2 := bb y2 (by simp)
 have b6 := bb y6 (by simp)
 have b7 := bb y7 (by simp)
 have b9 := bb y9 (by simp)
 have b10 := bb y10 (by simp)
 exact ⟨⟨oT, cT, tl, oI, cI, il, oF, cF, fl, table, pages, most, oG, cG, gl, oE, cE, el, start, oL, cL, ll, oD, cD, dl⟩, rfl, ⟨hT, hI, hF, bounds_i64 w3, bounds_i64 w4, bounds_i64 w5, hG, hE, bounds_i64 w8, hL, hD⟩,
  ⟨Nat.le_trans zT b0, Nat.le_trans zI b1, Nat.le_trans zF b2, Nat.le_trans zG b6, Nat.le_trans zE b7, Nat.le_trans zL b9, Nat.le_trans zD b10, fun d hd => ⟨Nat.le_trans (sT d hd).1 b0, Nat.le_trans (sT d hd).2 b0⟩, fun d hd => Nat.le_trans (sF d hd) b2, fun d hd => Nat.le_trans (sL d hd) b9⟩⟩
end Go.Proofs.YtmemiohompdibaaGreatDoor
