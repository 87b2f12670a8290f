/-
  What the program's own nest.closed and a single part's flat do.
-/
import Derived.Test.YtmbficofcmfmlaaDoorNTree2
namespace Go.Proofs.YtmbficofcmfmlaaDoor
open Go.RowKit

/-- Of what was there only rows of instructions may have turned. -/
structure FK (w w' : World) : Prop where
  size : w.heap.size ≤ w'.heap.size
  block : ∀ (j : Nat) (cur : Array Value) (t : TypeId) (f : Nat × Nat), w.heap[j]? = some (.cells cur t f) → t ≠ 52 → w'.heap[j]? = w.heap[j]?
theorem FK.refl (w : World) : FK w w := ⟨Nat.le_refl _, fun _ _ _ _ _ _ => rfl⟩
theorem FK.trans {a b c : World} (h : FK a b) (k : FK b c) : FK a c :=
  ⟨Nat.le_trans h.size k.size, fun j cur t f hj ht => by
    have h1 := h.block j cur t f hj ht
    rw [k.block j cur t f (by rw [h1]; exact hj) ht, h1]⟩
theorem FK.of_below {w w' : World} (b : Below w.heap.size w w') : FK w w' := ⟨b.size, fun j _ _ _ hj _ => b.block j (some_lt hj)⟩
theorem FK.drew {a b : World} (h : FK a b) : FK a b.drew := ⟨h.size, h.block⟩
theorem FK.grown {w w1 : World} {B k cap : Nat} {o : Option Addr} {M : List InsD} (h : IR w B o k cap M) (hg : w.grownBy w1 (Value.slice o k cap).ownBlock) : FK w w1 := by
  refine ⟨hg.size, fun j cur t f hj ht => hg.block j (some_lt hj) fun e => ?_⟩
  rcases h.own.2 with ⟨h1, _⟩ | ⟨g, c, cur', h1, _, h3, _⟩
  · rw [h1] at e
    simp [Value.ownBlock] at e
  · rw [h1] at e
    simp only [Value.ownBlock, Option.some.injEq] at e
    rw [e, h3] at hj
    simp only [Option.some.injEq, Obj.cells.injEq] at hj
    exact ht hj.2.1.symm
theorem RowP.fk {w w' : World} {F : Nat → Prop} {o : Option Addr} {k cap : Nat} {c : List Value} (h : RowP w F o k cap c) (hk : FK w w') : RowP w' F o k cap c := by
  obtain ⟨h1, h2, h3, h4⟩ := h
  refine ⟨h1, h2, h3, ?_⟩
  rcases h4 with h4 | ⟨g, rfl, hg, ⟨cur, f, hc⟩, hi⟩
  · exact Or.inl h4
  · have hkk := hk.block g cur _ f hc (by decide)
    exact Or.inr ⟨g, rfl, hg, ⟨cur, f, by rw [hkk]; exact hc⟩, fun i hik => by rw [World.cell?_of_block (w := w) (a := ⟨g, i, none⟩) hkk]; exact hi i hik⟩
theorem OkT.fk {w w' : World} {d : InsD} (h : OkT w d) (k : FK w w') : OkT w' d := h.keep k.size (fun j cur f hj => k.block j cur 2 f hj (by decide))
theorem PL.fk {w w' : World} {F : Nat → Prop} {cs : List Value} {L : List V4} {dp sz : Nat} (h : PL w F cs L dp sz) (k : FK w w') : PL w' F cs L dp sz := by
  induction h with
  | nil => exact PL.nil
  | single d h hn cs L dp sz r ih => exact PL.single d (h.fk k) hn cs L dp sz ih
  | block d h hn o kk cap ci LI di si hr ri cs L dp sz r ihi ih => exact PL.block d (h.fk k) hn o kk cap ci LI di si (hr.fk k) ihi cs L dp sz ih
  | choice d h hn o kk cap ci LI di si hr ri els o2 k2 cap2 c2 L2 d2 s2 hr2 ri2 he cs L dp sz r ihi ihj ih => exact PL.choice d (h.fk k) hn o kk cap ci LI di si (hr.fk k) ihi els o2 k2 cap2 c2 L2 d2 s2 (hr2.fk k) ihj he cs L dp sz ih
/-- A list is answered: the elder one, and these behind it. -/
def LP (B : Nat) (w : World) (V : List V4) (r : Ending) (w' : World) : Prop := ∃ (o' : Option Addr) (k' cap' : Nat) (M' : List InsD), r = .returned (.slice o' k' cap') ∧ IR w' B o' k' cap' M' ∧ M'.map InsD.val = V ∧ FK w w' ∧ Below B w w'
/-- The instruction that is an end, or an else, alone. -/
def opD (op : Int) : InsD := ⟨op, 0, 0, none, 0, 0, []⟩
theorem opD_ok (op : Int) (h0 : 0 ≤ op) (h1 : op ≤ 255) (w : World) : (opD op).ok w := ⟨h0, h1, by show (-9223372036854775808 : Int) ≤ 0 ∧ (0 : Int) ≤ 9223372036854775807; omega, Nat.le_refl _, by show 0 ≤ maxLen; omega, ⟨rfl, Or.inl rfl⟩, fun _ => rfl⟩
set_option maxHeartbeats 4000000 in
set_option maxRecDepth 1000000 in
theorem closed_any (B k cap : Nat) (o : Option Addr) (M : List InsD) (w : World) (h : IR w B o k cap M) (hk : k ≤ 1000) (hB : B ≤ w.heap.size) :
    Calls Tryd.prog 39 #[.slice o k cap] w fun r w' => LP B w (M.map InsD.val ++ [endV]) r w' := by
  obtain ⟨i0, hi, hz0, hz1, hz2⟩ := info_parts Tryd.infoIns
  have HI : Hid (IR w B o k cap M) := h
  clear h
  go_enter Tryd.func39, Tryd.ntmps39
  go_wp2_with (at_builtin; refine wpList_append_lies _ rfl _ _ 22 rfl B 52 i0 (.agg #[.int .u8 0, .int .i64 0, .int .i64 0, .slice none 0 0]) 4 48 Tryd.underlying22 hi hz0 hz1 hz2 rfl (by omega) _ k (cellsOf M) rfl (HI.out.own.alloc _) ⟨w.heap.size, 0, none⟩ 1 1 [.int .u8 11, .int .i64 0, .int .i64 0, .slice none 0 0] rfl rfl (World.news_of_block (cs := #[.int .u8 11, .int .i64 0, .int .i64 0, .slice none 0 0]) (t := 52) (fr := (0, 0)) (heap_alloc_new w _)) (by simp [Value.oneCell']) (by omega) (by unfold maxLen; omega) (by omega) (by simp; omega) (w.heap.size + 1) (by simp) ?_)
  intro g capg w3 hown hgrow hat hlt
  have bA : Below w.heap.size w (w.alloc (.cells #[.int .u8 11, .int .i64 0, .int .i64 0, .slice none 0 0] 52)) := (Below.refl _ _).alloc (Nat.le_refl _) _
  have HI3 : Hid (IR w3 B (some ⟨g, 0, none⟩) (k + 1) capg (M ++ [opD 11])) := (HI.out.under bA).app (opD_ok 11 (by omega) (by omega) _) (fun h0 => absurd h0 (by simp [opD])) hown hgrow
  have HFK : Hid (FK w w3) := (FK.of_below bA).trans (FK.grown (HI.out.under bA) hgrow)
  have HB4 : Hid (Below B w w3) := ((Below.refl _ _).alloc hB _).grown hgrow (by simp; omega) (fun j hj => (HI.out.own.lt j hj).1)
  clear hown hgrow hat hlt bA HI
  go_wp2
  go_ret
  exact ⟨_, _, _, M ++ [opD 11], rfl, HI3.out, by rw [List.map_append]; rfl, HFK.out, HB4.out⟩
set_option maxHeartbeats 4000000 in
set_option maxRecDepth 1000000 in
theorem single_any (B k cap : Nat) (o : Option Addr) (M : List InsD) (d : InsD) (w : World) (h : IR w B o k cap M) (hk : k ≤ 1000) (hB : B ≤ w.heap.size) (hd : OkT w d) (hn : d.n ≤ 16) :
    Calls Tryd.prog 165 #[.agg #[.int .u8 d.op, .int .i64 d.A, .int .i64 d.B, .slice d.o d.n d.cap], .slice o k cap] w fun r w' => LP B w (M.map InsD.val ++ [d.val]) r w' := by
  obtain ⟨i0, hi, hz0, hz1, hz2⟩ := info_parts Tryd.infoIns
  have HI : Hid (IR w B o k cap M) := h
  have HCP : Hid (∀ w', Below w.heap.size w w' → Calls Tryd.prog 86 #[.agg #[.int .u8 d.op, .int .i64 d.A, .int .i64 d.B, .slice d.o d.n d.cap]] w' fun r w'' => ∃ d' : InsD, r = .returned (.agg #[.int .u8 d'.op, .int .i64 d'.A, .int .i64 d'.B, .slice d'.o d'.n d'.cap]) ∧ d'.val = d.val ∧ d'.n = d.n ∧ OkT w'' d' ∧ Below w'.heap.size w' w'') := fun w' b => copied_any d hn w' (hd.1.below b)
  clear h hd
  go_enter Tryd.func165, Tryd.ntmps165
  go_wp2_with fail
  refine (HCP.out _ ((Below.refl _ _).alloc (Nat.le_refl _) _)).mono ?_
  rintro r w2 ⟨d', rfl, hval, hnn, hok, b2⟩
  clear hnn
  have b02 : Below w.heap.size w w2 := ((Below.refl _ _).alloc (Nat.le_refl _) _).trans (b2.mono (by simp))
  have HI2 : Hid (IR w2 B o k cap M) := HI.out.under b02
  have HB2 : Hid (Below w.heap.size w w2) := b02
  have hs2 := b02.size
  have HOK : Hid (OkT w2 d') := hok
  have HVL : Hid (d'.val = d.val) := hval
  clear b2 b02 hok hval HI HCP
  go_wp2_with (at_builtin; refine wpList_append_lies _ rfl _ _ 22 rfl B 52 i0 (.agg #[.int .u8 0, .int .i64 0, .int .i64 0, .slice none 0 0]) 4 48 Tryd.underlying22 hi hz0 hz1 hz2 rfl (by omega) _ k (cellsOf M) rfl (HI2.out.own.alloc _) ⟨w2.heap.size, 0, none⟩ 1 1 [.int .u8 d'.op, .int .i64 d'.A, .int .i64 d'.B, .slice d'.o d'.n d'.cap] rfl rfl (World.news_of_block (cs := #[.int .u8 d'.op, .int .i64 d'.A, .int .i64 d'.B, .slice d'.o d'.n d'.cap]) (t := 52) (fr := (0, 0)) (heap_alloc_new w2 _)) (by simp [Value.oneCell']) (by omega) (by unfold maxLen; omega) (by omega) (by simp; omega) (w2.heap.size + 1) (by simp) ?_)
  intro g capg w3 hown hgrow hat hlt
  have bA : Below w2.heap.size w2 (w2.alloc (.cells #[.int .u8 d'.op, .int .i64 d'.A, .int .i64 d'.B, .slice d'.o d'.n d'.cap] 52)) := (Below.refl _ _).alloc (Nat.le_refl _) _
  have hokA := HOK.out.fk (FK.of_below bA)
  have HI3 : Hid (IR w3 B (some ⟨g, 0, none⟩) (k + 1) capg (M ++ [d'])) := (HI2.out.under bA).app hokA.1 hokA.2 hown hgrow
  have HFK : Hid (FK w w3) := (FK.of_below HB2.out).trans ((FK.of_below bA).trans (FK.grown (HI2.out.under bA) hgrow))
  have HB4 : Hid (Below B w w3) := (HB2.out.mono hB).trans (((Below.refl _ _).alloc (by omega) _).grown hgrow (by simp; omega) (fun j hj => (HI2.out.own.lt j hj).1))
  clear hown hgrow hat hlt bA HI2 hokA
  go_wp2
  go_ret
  exact ⟨_, _, _, M ++ [d'], rfl, HI3.out, by rw [List.map_append, List.map_cons, List.map_nil, HVL.out], HFK.out, HB4.out⟩

end Go.Proofs.YtmbficofcmfmlaaDoor
