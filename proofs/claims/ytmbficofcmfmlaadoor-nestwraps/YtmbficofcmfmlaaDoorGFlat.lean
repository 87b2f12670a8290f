/-
  What the program's own nest.closed and a single part's flat do.
  What the flat methods of the program's own blocks and choices do.
  What the flat methods of the program's own blocks and choices do, and nest.flatAll.
  What the program's own nest.flatAll does.
-/
import Derived.Test.YtmbficofcmfmlaaDoorNTree2
import Derived.Deep.RegionHeld3
namespace Go.Proofs.YtmbficofcmfmlaaDoor
open Go.RowKit

/-- Of what was there only rows of instructions may have turned. -/
structure FK (w w' : World) : Prop where
  size : w.heap.size ≤ w'.heap.size
  block : ∀ (j : Nat) (cur : Array Value) (t : TypeId) (f : Nat × Nat), w.heap[j]? = some (.cells cur t f) → t ≠ 52 → w'.heap[j]? = w.heap[j]?
theorem FK.refl (w : World) : FK w w := ⟨Nat.le_refl _, fun _ _ _ _ _ _ => rfl⟩
theorem FK.trans {a b c : World} (h : FK a b) (k : FK b c) : FK a c :=
  ⟨Nat.le_trans h.size k.size, fun j cur t f hj ht => by
    have h1 := h.block j cur t f hj ht
    rw [k.block j cur t f (by rw [h1]; exact hj) ht, h1]⟩
theorem FK.of_below {w w' : World} (b : Below w.heap.size w w') : FK w w' := ⟨b.size, fun j _ _ _ hj _ => b.block j (some_lt hj)⟩
theorem FK.drew {a b : World} (h : FK a b) : FK a b.drew := ⟨h.size, h.block⟩
theorem FK.grown {w w1 : World} {B k cap : Nat} {o : Option Addr} {M : List InsD} (h : IR w B o k cap M) (hg : w.grownBy w1 (Value.slice o k cap).ownBlock) : FK w w1 := by
  refine ⟨hg.size, fun j cur t f hj ht => hg.block j (some_lt hj) fun e => ?_⟩
  rcases h.own.2 with ⟨h1, _⟩ | ⟨g, c, cur', h1, _, h3, _⟩
  · rw [h1] at e
    simp [Value.ownBlock] at e
  · rw [h1] at e
    simp only [Value.ownBlock, Option.some.injEq] at e
    rw [e, h3] at hj
    simp only [Option.some.injEq, Obj.cells.injEq] at hj
    exact ht hj.2.1.symm
theorem RowP.fk {w w' : World} {F : Nat → Prop} {o : Option Addr} {k cap : Nat} {c : List Value} (h : RowP w F o k cap c) (hk : FK w w') : RowP w' F o k cap c := by
  obtain ⟨h1, h2, h3, h4⟩ := h
  refine ⟨h1, h2, h3, ?_⟩
  rcases h4 with h4 | ⟨g, rfl, hg, ⟨cur, f, hc⟩, hi⟩
  · exact Or.inl h4
  · have hkk := hk.block g cur _ f hc (by decide)
    exact Or.inr ⟨g, rfl, hg, ⟨cur, f, by rw [hkk]; exact hc⟩, fun i hik => by rw [World.cell?_of_block (w := w) (a := ⟨g, i, none⟩) hkk]; exact hi i hik⟩
theorem OkT.fk {w w' : World} {d : InsD} (h : OkT w d) (k : FK w w') : OkT w' d := h.keep k.size (fun j cur f hj => k.block j cur 2 f hj (by decide))
theorem PL.fk {w w' : World} {F : Nat → Prop} {cs : List Value} {L : List V4} {dp sz : Nat} (h : PL w F cs L dp sz) (k : FK w w') : PL w' F cs L dp sz := by
  induction h with
  | nil => exact PL.nil
  | single d h hn cs L dp sz r ih => exact PL.single d (h.fk k) hn cs L dp sz ih
  | block d h hn o kk cap ci LI di si hr ri cs L dp sz r ihi ih => exact PL.block d (h.fk k) hn o kk cap ci LI di si (hr.fk k) ihi cs L dp sz ih
  | choice d h hn o kk cap ci LI di si hr ri els o2 k2 cap2 c2 L2 d2 s2 hr2 ri2 he cs L dp sz r ihi ihj ih => exact PL.choice d (h.fk k) hn o kk cap ci LI di si (hr.fk k) ihi els o2 k2 cap2 c2 L2 d2 s2 (hr2.fk k) ihj he cs L dp sz ih
/-- A list is answered: the elder one, and these behind it. -/
def LP (B : Nat) (w : World) (V : List V4) (r : Ending) (w' : World) : Prop := ∃ (o' : Option Addr) (k' cap' : Nat) (M' : List InsD), r = .returned (.slice o' k' cap') ∧ IR w' B o' k' cap' M' ∧ M'.map InsD.val = V ∧ FK w w' ∧ Below B w w'
/-- The instruction that is an end, or an else, alone. -/
def opD (op : Int) : InsD := ⟨op, 0, 0, none, 0, 0, []⟩
theorem opD_ok (op : Int) (h0 : 0 ≤ op) (h1 : op ≤ 255) (w : World) : (opD op).ok w := ⟨h0, h1, by show (-9223372036854775808 : Int) ≤ 0 ∧ (0 : Int) ≤ 9223372036854775807; omega, Nat.le_refl _, by show 0 ≤ maxLen; omega, ⟨rfl, Or.inl rfl⟩, fun _ => rfl⟩
set_option maxHeartbeats 4000000 in
set_option maxRecDepth 1000000 in
theorem closed_any (B k cap : Nat) (o : Option Addr) (M : List InsD) (w : World) (h : IR w B o k cap M) (hk : k ≤ 1000) (hB : B ≤ w.heap.size) :
    Calls Tryd.prog 39 #[.slice o k cap] w fun r w' => LP B w (M.map InsD.val ++ [endV]) r w' := by
  obtain ⟨i0, hi, hz0, hz1, hz2⟩ := info_parts Tryd.infoIns
  have HI : Hid (IR w B o k cap M) := h
  clear h
  go_enter Tryd.func39, Tryd.ntmps39
  go_wp2_with (at_builtin; refine wpList_append_lies _ rfl _ _ 22 rfl B 52 i0 (.agg #[.int .u8 0, .int .i64 0, .int .i64 0, .slice none 0 0]) 4 48 Tryd.underlying22 hi hz0 hz1 hz2 rfl (by omega) _ k (cellsOf M) rfl (HI.out.own.alloc _) ⟨w.heap.size, 0, none⟩ 1 1 [.int .u8 11, .int .i64 0, .int .i64 0, .slice none 0 0] rfl rfl (World.news_of_block (cs := #[.int .u8 11, .int .i64 0, .int .i64 0, .slice none 0 0]) (t := 52) (fr := (0, 0)) (heap_alloc_new w _)) (by simp [Value.oneCell']) (by omega) (by unfold maxLen; omega) (by omega) (by simp; omega) (w.heap.size + 1) (by simp) ?_)
  intro g capg w3 hown hgrow hat hlt
  have bA : Below w.heap.size w (w.alloc (.cells #[.int .u8 11, .int .i64 0, .int .i64 0, .slice none 0 0] 52)) := (Below.refl _ _).alloc (Nat.le_refl _) _
  have HI3 : Hid (IR w3 B (some ⟨g, 0, none⟩) (k + 1) capg (M ++ [opD 11])) := (HI.out.under bA).app (opD_ok 11 (by omega) (by omega) _) (fun h0 => absurd h0 (by simp [opD])) hown hgrow
  have HFK : Hid (FK w w3) := (FK.of_below bA).trans (FK.grown (HI.out.under bA) hgrow)
  have HB4 : Hid (Below B w w3) := ((Below.refl _ _).alloc hB _).grown hgrow (by simp; omega) (fun j hj => (HI.out.own.lt j hj).1)
  clear hown hgrow hat hlt bA HI
  go_wp2
  go_ret
  exact ⟨_, _, _, M ++ [opD 11], rfl, HI3.out, by rw [List.map_append]; rfl, HFK.out, HB4.out⟩
set_option maxHeartbeats 4000000 in
set_option maxRecDepth 1000000 in
theorem single_any (B k cap : Nat) (o : Option Addr) (M : List InsD) (d : InsD) (w : World) (h : IR w B o k cap M) (hk : k ≤ 1000) (hB : B ≤ w.heap.size) (hd : OkT w d) (hn : d.n ≤ 16) :
    Calls Tryd.prog 165 #[.agg #[.int .u8 d.op, .int .i64 d.A, .int .i64 d.B, .slice d.o d.n d.cap], .slice o k cap] w fun r w' => LP B w (M.map InsD.val ++ [d.val]) r w' := by
  obtain ⟨i0, hi, hz0, hz1, hz2⟩ := info_parts Tryd.infoIns
  have HI : Hid (IR w B o k cap M) := h
  have HCP : Hid (∀ w', Below w.heap.size w w' → Calls Tryd.prog 86 #[.agg #[.int .u8 d.op, .int .i64 d.A, .int .i64 d.B, .slice d.o d.n d.cap]] w' fun r w'' => ∃ d' : InsD, r = .returned (.agg #[.int .u8 d'.op, .int .i64 d'.A, .int .i64 d'.B, .slice d'.o d'.n d'.cap]) ∧ d'.val = d.val ∧ d'.n = d.n ∧ OkT w'' d' ∧ Below w'.heap.size w' w'') := fun w' b => copied_any d hn w' (hd.1.below b)
  clear h hd
  go_enter Tryd.func165, Tryd.ntmps165
  go_wp2_with fail
  refine (HCP.out _ ((Below.refl _ _).alloc (Nat.le_refl _) _)).mono ?_
  rintro r w2 ⟨d', rfl, hval, hnn, hok, b2⟩
  clear hnn
  have b02 : Below w.heap.size w w2 := ((Below.refl _ _).alloc (Nat.le_refl _) _).trans (b2.mono (by simp))
  have HI2 : Hid (IR w2 B o k cap M) := HI.out.under b02
  have HB2 : Hid (Below w.heap.size w w2) := b02
  have hs2 := b02.size
  have HOK : Hid (OkT w2 d') := hok
  have HVL : Hid (d'.val = d.val) := hval
  clear b2 b02 hok hval HI HCP
  go_wp2_with (at_builtin; refine wpList_append_lies _ rfl _ _ 22 rfl B 52 i0 (.agg #[.int .u8 0, .int .i64 0, .int .i64 0, .slice none 0 0]) 4 48 Tryd.underlying22 hi hz0 hz1 hz2 rfl (by omega) _ k (cellsOf M) rfl (HI2.out.own.alloc _) ⟨w2.heap.size, 0, none⟩ 1 1 [.int .u8 d'.op, .int .i64 d'.A, .int .i64 d'.B, .slice d'.o d'.n d'.cap] rfl rfl (World.news_of_block (cs := #[.int .u8 d'.op, .int .i64 d'.A, .int .i64 d'.B, .slice d'.o d'.n d'.cap]) (t := 52) (fr := (0, 0)) (heap_alloc_new w2 _)) (by simp [Value.oneCell']) (by omega) (by unfold maxLen; omega) (by omega) (by simp; omega) (w2.heap.size + 1) (by simp) ?_)
  intro g capg w3 hown hgrow hat hlt
  have bA : Below w2.heap.size w2 (w2.alloc (.cells #[.int .u8 d'.op, .int .i64 d'.A, .int .i64 d'.B, .slice d'.o d'.n d'.cap] 52)) := (Below.refl _ _).alloc (Nat.le_refl _) _
  have hokA := HOK.out.fk (FK.of_below bA)
  have HI3 : Hid (IR w3 B (some ⟨g, 0, none⟩) (k + 1) capg (M ++ [d'])) := (HI2.out.under bA).app hokA.1 hokA.2 hown hgrow
  have HFK : Hid (FK w w3) := (FK.of_below HB2.out).trans ((FK.of_below bA).trans (FK.grown (HI2.out.under bA) hgrow))
  have HB4 : Hid (Below B w w3) := (HB2.out.mono hB).trans (((Below.refl _ _).alloc (by omega) _).grown hgrow (by simp; omega) (fun j hj => (HI2.out.own.lt j hj).1))
  clear hown hgrow hat hlt bA HI2 hokA
  go_wp2
  go_ret
  exact ⟨_, _, _, M ++ [d'], rfl, HI3.out, by rw [List.map_append, List.map_cons, List.map_nil, HVL.out], HFK.out, HB4.out⟩

end Go.Proofs.YtmbficofcmfmlaaDoor
namespace Go.Proofs.YtmbficofcmfmlaaDoor
open Go.RowKit

theorem agg5 {w : World} {X : Nat} {c0 c1 c2 c3 c4 : Value} {t : TypeId} (h : w.heap[X]? = some (.cells #[c0, c1, c2, c3, c4] t (0, 0))) : w.cell? ⟨X, 0, none⟩ = some c0 ∧ w.cell? ⟨X, 1, none⟩ = some c1 ∧ w.cell? ⟨X, 2, none⟩ = some c2 ∧ w.cell? ⟨X, 3, none⟩ = some c3 ∧ w.cell? ⟨X, 4, none⟩ = some c4 := by
  simp [World.cell?, h]
theorem agg7 {w : World} {X : Nat} {c0 c1 c2 c3 c4 c5 c6 : Value} {t : TypeId} (h : w.heap[X]? = some (.cells #[c0, c1, c2, c3, c4, c5, c6] t (0, 0))) : w.cell? ⟨X, 5, none⟩ = some c5 ∧ w.cell? ⟨X, 6, none⟩ = some c6 := by
  simp [World.cell?, h]
set_option maxHeartbeats 8000000 in
set_option maxRecDepth 1000000 in
theorem front_core (B k cap : Nat) (o : Option Addr) (M : List InsD) (d : InsD) (o1 : Option Addr) (k1 cap1 : Nat) (LI : List V4) (w : World) (h : IR w B o k cap M) (hk : k ≤ 1000) (hB : B ≤ w.heap.size) (hd : OkT w d) (hn : d.n ≤ 16)
    (HFA : Hid (∀ (o' : Option Addr) (cap' : Nat) (M' : List InsD) w', FK w w' → Below B w w' → IR w' B o' (k + 1) cap' M' → Calls Tryd.prog 40 #[.slice o' (k + 1) cap', .slice o1 k1 cap1] w' fun r w'' => LP B w' (M'.map InsD.val ++ LI) r w'')) :
    Calls Tryd.prog 163 #[.agg #[.int .u8 d.op, .int .i64 d.A, .int .i64 d.B, .slice d.o d.n d.cap, .slice o1 k1 cap1], .slice o k cap] w fun r w' => LP B w (M.map InsD.val ++ d.val :: LI) r w' := by
  obtain ⟨i0, hi, hz0, hz1, hz2⟩ := info_parts Tryd.infoIns
  have HI : Hid (IR w B o k cap M) := h
  have HCP : Hid (∀ w', Below w.heap.size w w' → Calls Tryd.prog 86 #[.agg #[.int .u8 d.op, .int .i64 d.A, .int .i64 d.B, .slice d.o d.n d.cap]] w' fun r w'' => ∃ d' : InsD, r = .returned (.agg #[.int .u8 d'.op, .int .i64 d'.A, .int .i64 d'.B, .slice d'.o d'.n d'.cap]) ∧ d'.val = d.val ∧ d'.n = d.n ∧ OkT w'' d' ∧ Below w'.heap.size w' w'') := fun w' b => copied_any d hn w' (hd.1.below b)
  have HBX : Hid (Below w.heap.size w (w.alloc (.cells #[.int .u8 d.op, .int .i64 d.A, .int .i64 d.B, .slice d.o d.n d.cap, .slice o1 k1 cap1] 110)).drew) := ((Below.refl _ _).alloc (Nat.le_refl _) _).drew
  have HXX : Hid ((w.alloc (.cells #[.int .u8 d.op, .int .i64 d.A, .int .i64 d.B, .slice d.o d.n d.cap, .slice o1 k1 cap1] 110)).drew.heap[w.heap.size]? = some (.cells #[.int .u8 d.op, .int .i64 d.A, .int .i64 d.B, .slice d.o d.n d.cap, .slice o1 k1 cap1] 110 (0, 0))) := heap_alloc_new w _
  clear h hd
  go_enter Tryd.func163, Tryd.ntmps163
  go_wp2
  go_region_held3 (fun w' => w'.cell? ⟨w.heap.size, 0, none⟩ = some (.int .u8 d.op) ∧ w'.cell? ⟨w.heap.size, 1, none⟩ = some (.int .i64 d.A) ∧ w'.cell? ⟨w.heap.size, 2, none⟩ = some (.int .i64 d.B) ∧ w'.cell? ⟨w.heap.size, 3, none⟩ = some (.slice d.o d.n d.cap) ∧ w'.cell? ⟨w.heap.size, 4, none⟩ = some (.slice o1 k1 cap1))
    (first | go_keep | exact agg5 HXX.out | exact agg5 HX2.out | exact agg5 HX3.out | exact agg5 HX4.out)
    (first
      | (go_at_call 86; refine (HCP.out _ HBX.out).mono ?_; rintro r w2 ⟨d', rfl, hval, hnn, hok, b2⟩; clear hnn; have b02 : Below w.heap.size w w2 := HBX.out.trans (b2.mono HBX.out.size); have HI2 : Hid (IR w2 B o k cap M) := HI.out.under b02; have HB2 : Hid (Below w.heap.size w w2) := b02; have hs2 := b02.size; have HX2 : Hid (w2.heap[w.heap.size]? = some (.cells #[.int .u8 d.op, .int .i64 d.A, .int .i64 d.B, .slice d.o d.n d.cap, .slice o1 k1 cap1] 110 (0, 0))) := (b2.block _ (some_lt HXX.out)).trans HXX.out; have HOK : Hid (OkT w2 d') := hok; have HVL : Hid (d'.val = d.val) := hval; clear b2 b02 hok hval)
      | (refine step_append_lies _ (by rfl) _ _ _ (by rfl) B 52 i0 (.agg #[.int .u8 0, .int .i64 0, .int .i64 0, .slice none 0 0]) 4 48 Tryd.underlying22 hi hz0 hz1 hz2 rfl (by omega) (.slice o k cap) k (cellsOf M) (by rfl) (HI2.out.own.alloc _) ⟨w2.heap.size, 0, none⟩ 1 1 [.int .u8 d'.op, .int .i64 d'.A, .int .i64 d'.B, .slice d'.o d'.n d'.cap] (by rfl) (by rfl) (World.news_of_block (cs := #[.int .u8 d'.op, .int .i64 d'.A, .int .i64 d'.B, .slice d'.o d'.n d'.cap]) (t := 52) (fr := (0, 0)) (heap_alloc_new w2 _)) (by simp [Value.oneCell']) (by omega) (by unfold maxLen; omega) (by omega) (by simp; omega) (w2.heap.size + 1) (by simp) ?_; intro g capg w3 hown hgrow hat hlt; have bA : Below w2.heap.size w2 (w2.alloc (.cells #[.int .u8 d'.op, .int .i64 d'.A, .int .i64 d'.B, .slice d'.o d'.n d'.cap] 52)) := (Below.refl _ _).alloc (Nat.le_refl _) _; have hokA := HOK.out.fk (FK.of_below bA); have HI3 : Hid (IR w3 B (some ⟨g, 0, none⟩) (k + 1) capg (M ++ [d'])) := (HI2.out.under bA).app hokA.1 hokA.2 hown hgrow; have hf3 : FK w2 w3 := (FK.of_below bA).trans (FK.grown (HI2.out.under bA) hgrow); have HFK : Hid (FK w w3) := (FK.of_below HB2.out).trans hf3; have HX3 : Hid (w3.heap[w.heap.size]? = some (.cells #[.int .u8 d.op, .int .i64 d.A, .int .i64 d.B, .slice d.o d.n d.cap, .slice o1 k1 cap1] 110 (0, 0))) := (hf3.block _ _ _ _ HX2.out (by decide)).trans HX2.out; have HB4 : Hid (Below B w w3) := (HB2.out.mono hB).trans (((Below.refl _ _).alloc (by omega) _).grown hgrow (by simp; omega) (fun j hj => (HI2.out.own.lt j hj).1)); clear hown hgrow hat hlt bA hokA hf3)
      | (go_at_call 40; refine (HFA.out _ _ _ _ HFK.out HB4.out HI3.out).mono ?_; rintro r w4 ⟨o4, k4, cap4, M4, rfl, hI4, hM4, hF4, hB4⟩; have HX4 : Hid (w4.heap[w.heap.size]? = some (.cells #[.int .u8 d.op, .int .i64 d.A, .int .i64 d.B, .slice d.o d.n d.cap, .slice o1 k1 cap1] 110 (0, 0))) := (hF4.block _ _ _ _ HX3.out (by decide)).trans HX3.out; have HLP : Hid (IR w4 B o4 k4 cap4 M4 ∧ M4.map InsD.val = M.map InsD.val ++ d.val :: LI ∧ FK w w4 ∧ Below B w w4) := ⟨hI4, by rw [hM4, List.map_append, List.map_cons, List.map_nil, HVL.out, List.append_assoc]; rfl, HFK.out.trans hF4, HB4.out.trans hB4⟩; clear hI4 hM4 hF4 hB4))
  all_goals
    go_wp2
    go_ret
    exact ⟨o4, k4, cap4, M4, rfl, HLP.out.1, HLP.out.2.1, HLP.out.2.2.1, HLP.out.2.2.2⟩

end Go.Proofs.YtmbficofcmfmlaaDoor
namespace Go.Proofs.YtmbficofcmfmlaaDoor
open Go.RowKit

theorem LP.len {B : Nat} {w w' : World} {V : List V4} {r : Ending} {o' : Option Addr} {k' cap' : Nat} {M' : List InsD} (_hr : r = .returned (.slice o' k' cap')) (h : IR w' B o' k' cap' M') (hv : M'.map InsD.val = V) (_hw : w = w) : k' = V.length := by
  rw [← h.len, ← hv, List.length_map]
set_option maxHeartbeats 8000000 in
set_option maxRecDepth 1000000 in
theorem block_core (B k cap : Nat) (o : Option Addr) (M : List InsD) (d : InsD) (o1 : Option Addr) (k1 cap1 : Nat) (LI : List V4) (w : World) (hk : k + LI.length ≤ 900) (hB : B ≤ w.heap.size) (hM : M.length = k)
    (HFR : Hid (∀ w', Below w.heap.size w w' → Calls Tryd.prog 163 #[.agg #[.int .u8 d.op, .int .i64 d.A, .int .i64 d.B, .slice d.o d.n d.cap, .slice o1 k1 cap1], .slice o k cap] w' fun r w'' => LP B w' (M.map InsD.val ++ d.val :: LI) r w'')) :
    Calls Tryd.prog 162 #[.agg #[.int .u8 d.op, .int .i64 d.A, .int .i64 d.B, .slice d.o d.n d.cap, .slice o1 k1 cap1], .slice o k cap] w fun r w' => LP B w (M.map InsD.val ++ d.val :: (LI ++ [endV])) r w' := by
  have bX : Below w.heap.size w (w.alloc (.cells #[.int .u8 d.op, .int .i64 d.A, .int .i64 d.B, .slice d.o d.n d.cap, .slice o1 k1 cap1] 110)) := (Below.refl _ _).alloc (Nat.le_refl _) _
  have HBX : Hid (type_of% bX) := bX
  clear bX
  go_enter Tryd.func162, Tryd.ntmps162
  go_wp2_with fail
  refine (HFR.out _ HBX.out).mono ?_
  rintro r w2 ⟨o2, k2, cap2, M2, rfl, hI2, hM2, hF2, hB2⟩
  have hk2 : k2 ≤ 1000 := by
    rw [← hI2.len, ← List.length_map (f := InsD.val), hM2]
    simp
    omega
  have hs2 : B ≤ w2.heap.size := Nat.le_trans hB (Nat.le_trans HBX.out.size hF2.size)
  have HCL := closed_any B k2 cap2 o2 M2 w2 hI2 hk2 hs2
  have HCM : Hid (type_of% HCL) := HCL
  have HF : Hid (FK w w2) := (FK.of_below HBX.out).trans hF2
  have HB : Hid (Below B w w2) := (HBX.out.mono hB).trans hB2
  have HMV : Hid (type_of% hM2) := hM2
  clear HCL hI2 hM2 hF2 hB2
  go_wp2_with fail
  refine HCM.out.mono ?_
  rintro r w3 ⟨o3, k3, cap3, M3, rfl, hI3, hM3, hF3, hB3⟩
  go_wp2
  go_ret
  exact ⟨o3, k3, cap3, M3, rfl, hI3, by rw [hM3, HMV.out]; simp, HF.out.trans hF3, HB.out.trans hB3⟩
set_option maxHeartbeats 8000000 in
set_option maxRecDepth 1000000 in
theorem choice_core0 (B k cap : Nat) (o : Option Addr) (M : List InsD) (d : InsD) (o1 : Option Addr) (k1 cap1 : Nat) (LI : List V4) (o9 : Option Addr) (k9 cap9 : Nat) (w : World) (hk : k + LI.length ≤ 900) (hB : B ≤ w.heap.size) (hM : M.length = k)
    (HFR : Hid (∀ w', Below w.heap.size w w' → Calls Tryd.prog 163 #[.agg #[.int .u8 d.op, .int .i64 d.A, .int .i64 d.B, .slice d.o d.n d.cap, .slice o1 k1 cap1], .slice o k cap] w' fun r w'' => LP B w' (M.map InsD.val ++ d.val :: LI) r w'')) :
    Calls Tryd.prog 164 #[.agg #[.int .u8 d.op, .int .i64 d.A, .int .i64 d.B, .slice d.o d.n d.cap, .slice o1 k1 cap1, .bool false, .slice o9 k9 cap9], .slice o k cap] w fun r w' => LP B w (M.map InsD.val ++ d.val :: (LI ++ [endV])) r w' := by
  have bX : Below w.heap.size w (w.alloc (.cells #[.int .u8 d.op, .int .i64 d.A, .int .i64 d.B, .slice d.o d.n d.cap, .slice o1 k1 cap1, .bool false, .slice o9 k9 cap9] 112)) := (Below.refl _ _).alloc (Nat.le_refl _) _
  have HBX : Hid (type_of% bX) := bX
  have HXX : Hid ((w.alloc (.cells #[.int .u8 d.op, .int .i64 d.A, .int .i64 d.B, .slice d.o d.n d.cap, .slice o1 k1 cap1, .bool false, .slice o9 k9 cap9] 112)).heap[w.heap.size]? = some (.cells #[.int .u8 d.op, .int .i64 d.A, .int .i64 d.B, .slice d.o d.n d.cap, .slice o1 k1 cap1, .bool false, .slice o9 k9 cap9] 112 (0, 0))) := heap_alloc_new w _
  clear bX
  go_enter Tryd.func164, Tryd.ntmps164
  go_wp2_with fail
  refine (HFR.out _ HBX.out).mono ?_
  rintro r w2 ⟨o2, k2, cap2, M2, rfl, hI2, hM2, hF2, hB2⟩
  have hk2 : k2 ≤ 1000 := by
    rw [← hI2.len, ← List.length_map (f := InsD.val), hM2]
    simp
    omega
  have hs2 : B ≤ w2.heap.size := Nat.le_trans hB (Nat.le_trans HBX.out.size hF2.size)
  obtain ⟨x5, x6⟩ := agg7 ((hF2.block _ _ _ _ HXX.out (by decide)).trans HXX.out)
  have HCL := closed_any B k2 cap2 o2 M2 w2 hI2 hk2 hs2
  have HCM : Hid (type_of% HCL) := HCL
  have HF : Hid (FK w w2) := (FK.of_below HBX.out).trans hF2
  have HB : Hid (Below B w w2) := (HBX.out.mono hB).trans hB2
  have HMV : Hid (type_of% hM2) := hM2
  clear HCL hI2 hM2 hF2 hB2
  go_wp2_with fail
  refine HCM.out.mono ?_
  rintro r w3 ⟨o3, k3, cap3, M3, rfl, hI3, hM3, hF3, hB3⟩
  go_wp2
  go_ret
  exact ⟨o3, k3, cap3, M3, rfl, hI3, by rw [hM3, HMV.out]; simp, HF.out.trans hF3, HB.out.trans hB3⟩
set_option maxHeartbeats 8000000 in
set_option maxRecDepth 1000000 in
theorem choice_core1 (B k cap : Nat) (o : Option Addr) (M : List InsD) (d : InsD) (o1 : Option Addr) (k1 cap1 : Nat) (LI : List V4) (o9 : Option Addr) (k9 cap9 : Nat) (L9 : List V4) (w : World) (hk : k + LI.length + L9.length ≤ 900) (hB : B ≤ w.heap.size) (hM : M.length = k)
    (HFR : Hid (∀ w', Below w.heap.size w w' → Calls Tryd.prog 163 #[.agg #[.int .u8 d.op, .int .i64 d.A, .int .i64 d.B, .slice d.o d.n d.cap, .slice o1 k1 cap1], .slice o k cap] w' fun r w'' => LP B w' (M.map InsD.val ++ d.val :: LI) r w''))
    (HFA : Hid (∀ (o' : Option Addr) (k' cap' : Nat) (M' : List InsD) w', FK w w' → Below B w w' → IR w' B o' k' cap' M' → k' = k + LI.length + 2 → Calls Tryd.prog 40 #[.slice o' k' cap', .slice o9 k9 cap9] w' fun r w'' => LP B w' (M'.map InsD.val ++ L9) r w'')) :
    Calls Tryd.prog 164 #[.agg #[.int .u8 d.op, .int .i64 d.A, .int .i64 d.B, .slice d.o d.n d.cap, .slice o1 k1 cap1, .bool true, .slice o9 k9 cap9], .slice o k cap] w fun r w' => LP B w (M.map InsD.val ++ d.val :: (LI ++ (elseV :: L9 ++ [endV]))) r w' := by
  obtain ⟨i0, hi, hz0, hz1, hz2⟩ := info_parts Tryd.infoIns
  have bX : Below w.heap.size w (w.alloc (.cells #[.int .u8 d.op, .int .i64 d.A, .int .i64 d.B, .slice d.o d.n d.cap, .slice o1 k1 cap1, .bool true, .slice o9 k9 cap9] 112)) := (Below.refl _ _).alloc (Nat.le_refl _) _
  have HBX : Hid (type_of% bX) := bX
  have HXX : Hid ((w.alloc (.cells #[.int .u8 d.op, .int .i64 d.A, .int .i64 d.B, .slice d.o d.n d.cap, .slice o1 k1 cap1, .bool true, .slice o9 k9 cap9] 112)).heap[w.heap.size]? = some (.cells #[.int .u8 d.op, .int .i64 d.A, .int .i64 d.B, .slice d.o d.n d.cap, .slice o1 k1 cap1, .bool true, .slice o9 k9 cap9] 112 (0, 0))) := heap_alloc_new w _
  clear bX
  go_enter Tryd.func164, Tryd.ntmps164
  go_wp2_with fail
  refine (HFR.out _ HBX.out).mono ?_
  rintro r w2 ⟨o2, k2, cap2, M2, rfl, hI2, hM2, hF2, hB2⟩
  have HK2 : Hid (k2 = k + LI.length + 1) := by
    unfold Hid
    rw [← hI2.len, ← List.length_map (f := InsD.val), hM2]
    simp
    omega
  have hk2 : k2 ≤ 901 := by rw [HK2.out]; omega
  have hs2 : B ≤ w2.heap.size := Nat.le_trans hB (Nat.le_trans HBX.out.size hF2.size)
  have HX2 : Hid (w2.heap[w.heap.size]? = some (.cells #[.int .u8 d.op, .int .i64 d.A, .int .i64 d.B, .slice d.o d.n d.cap, .slice o1 k1 cap1, .bool true, .slice o9 k9 cap9] 112 (0, 0))) := (hF2.block _ _ _ _ HXX.out (by decide)).trans HXX.out
  obtain ⟨x5, x6⟩ := agg7 HX2.out
  have bA : Below w2.heap.size w2 (w2.alloc (.cells #[.int .u8 5, .int .i64 0, .int .i64 0, .slice none 0 0] 52)).drew := ((Below.refl _ _).alloc (Nat.le_refl _) _).drew
  have HIA : Hid (IR (w2.alloc (.cells #[.int .u8 5, .int .i64 0, .int .i64 0, .slice none 0 0] 52)).drew B o2 k2 cap2 M2) := hI2.under bA
  have HNB : Hid ((w2.alloc (.cells #[.int .u8 5, .int .i64 0, .int .i64 0, .slice none 0 0] 52)).drew.heap[w2.heap.size]? = some (.cells #[.int .u8 5, .int .i64 0, .int .i64 0, .slice none 0 0] 52 (0, 0))) := heap_alloc_new w2 _
  have HFA2 : Hid (FK w (w2.alloc (.cells #[.int .u8 5, .int .i64 0, .int .i64 0, .slice none 0 0] 52)).drew) := ((FK.of_below HBX.out).trans hF2).trans (FK.of_below bA)
  have HBA : Hid (Below B w (w2.alloc (.cells #[.int .u8 5, .int .i64 0, .int .i64 0, .slice none 0 0] 52)).drew) := ((HBX.out.mono hB).trans hB2).trans (bA.mono hs2)
  have HXA : Hid ((w2.alloc (.cells #[.int .u8 5, .int .i64 0, .int .i64 0, .slice none 0 0] 52)).drew.heap[w.heap.size]? = some (.cells #[.int .u8 d.op, .int .i64 d.A, .int .i64 d.B, .slice d.o d.n d.cap, .slice o1 k1 cap1, .bool true, .slice o9 k9 cap9] 112 (0, 0))) := (bA.block _ (some_lt HX2.out)).trans HX2.out
  have HSA : Hid (B ≤ (w2.alloc (.cells #[.int .u8 5, .int .i64 0, .int .i64 0, .slice none 0 0] 52)).drew.heap.size) := Nat.le_trans hs2 bA.size
  have HMV : Hid (type_of% hM2) := hM2
  clear hI2 hM2 hF2 hB2 HFR bA
  go_wp2
  go_region_held3 (fun w' => w'.cell? ⟨w.heap.size, 6, none⟩ = some (.slice o9 k9 cap9))
    (first | go_keep | exact (agg7 HX2.out).2 | exact (agg7 HXA.out).2 | exact (agg7 HX3.out).2 | exact (agg7 HX4.out).2)
    (first
      | (refine step_append_lies _ (by rfl) _ _ _ (by rfl) B 52 i0 (.agg #[.int .u8 0, .int .i64 0, .int .i64 0, .slice none 0 0]) 4 48 Tryd.underlying22 hi hz0 hz1 hz2 rfl (by omega) (.slice o2 k2 cap2) k2 (cellsOf M2) (by rfl) HIA.out.own ⟨w2.heap.size, 0, none⟩ 1 1 [.int .u8 5, .int .i64 0, .int .i64 0, .slice none 0 0] (by rfl) (by rfl) (World.news_of_block (cs := #[.int .u8 5, .int .i64 0, .int .i64 0, .slice none 0 0]) (t := 52) (fr := (0, 0)) HNB.out) (by simp [Value.oneCell']) (by omega) (by unfold maxLen; omega) (by omega) HSA.out _ rfl ?_; intro g capg w3 hown hgrow hat hlt; have HI3 : Hid (IR w3 B (some ⟨g, 0, none⟩) (k2 + 1) capg (M2 ++ [opD 5])) := HIA.out.app (opD_ok 5 (by omega) (by omega) _) (fun h0 => absurd h0 (by simp [opD])) hown hgrow; have hf3 : FK (w2.alloc (.cells #[.int .u8 5, .int .i64 0, .int .i64 0, .slice none 0 0] 52)).drew w3 := FK.grown HIA.out hgrow; have HFK : Hid (FK w w3) := HFA2.out.trans hf3; have HX3 : Hid (w3.heap[w.heap.size]? = some (.cells #[.int .u8 d.op, .int .i64 d.A, .int .i64 d.B, .slice d.o d.n d.cap, .slice o1 k1 cap1, .bool true, .slice o9 k9 cap9] 112 (0, 0))) := (hf3.block _ _ _ _ HXA.out (by decide)).trans HXA.out; have HB4 : Hid (Below B w w3) := HBA.out.grown hgrow HSA.out (fun j hj => (HIA.out.own.lt j hj).1); clear hown hgrow hat hlt hf3)
      | (go_at_call 40; refine (HFA.out _ _ _ _ _ HFK.out HB4.out HI3.out (by rw [HK2.out])).mono ?_; rintro r w4 ⟨o4, k4, cap4, M4, rfl, hI4, hM4, hF4, hB4⟩; have HX4 : Hid (w4.heap[w.heap.size]? = some (.cells #[.int .u8 d.op, .int .i64 d.A, .int .i64 d.B, .slice d.o d.n d.cap, .slice o1 k1 cap1, .bool true, .slice o9 k9 cap9] 112 (0, 0))) := (hF4.block _ _ _ _ HX3.out (by decide)).trans HX3.out; have HLP : Hid (IR w4 B o4 k4 cap4 M4 ∧ M4.map InsD.val = M.map InsD.val ++ d.val :: (LI ++ elseV :: L9) ∧ FK w w4 ∧ Below B w w4) := ⟨hI4, by rw [hM4, List.map_append, HMV.out]; simp; rfl, HFK.out.trans hF4, HB4.out.trans hB4⟩; clear hI4 hM4 hF4 hB4))
  all_goals
    have hk4 : k4 ≤ 1000 := by
      rw [← HLP.out.1.len, ← List.length_map (f := InsD.val), HLP.out.2.1]
      simp
      omega
    have HCL := closed_any B k4 cap4 o4 M4 w4 HLP.out.1 hk4 (Nat.le_trans hB HLP.out.2.2.1.size)
    have HCM : Hid (type_of% HCL) := HCL
    clear HCL
    go_wp2_with fail
    refine HCM.out.mono ?_
    rintro r w5 ⟨o5, k5, cap5, M5, rfl, hI5, hM5, hF5, hB5⟩
    go_wp2
    go_ret
    exact ⟨o5, k5, cap5, M5, rfl, hI5, by rw [hM5, HLP.out.2.1]; simp, HLP.out.2.2.1.trans hF5, HLP.out.2.2.2.trans hB5⟩

end Go.Proofs.YtmbficofcmfmlaaDoor
namespace Go.Proofs.YtmbficofcmfmlaaDoor
open Go.RowKit

/-- What is asked of flatAll, for lists of parts that are no longer than so. -/
def FlatTo (m : Nat) : Prop := ∀ (F : Nat → Prop) (B k cap : Nat) (o : Option Addr) (M : List InsD) (po : Option Addr) (pk pcap : Nat) (cs : List Value) (L : List V4) (dp sz : Nat) (w : World), L.length ≤ m → k + L.length ≤ 800 → RowP w F po pk pcap cs → PL w F cs L dp sz → IR w B o k cap M → B ≤ w.heap.size →
  Calls Tryd.prog 40 #[.slice o k cap, .slice po pk pcap] w fun r w' => LP B w (M.map InsD.val ++ L) r w'
set_option maxHeartbeats 8000000 in
set_option maxRecDepth 1000000 in
theorem flatAll_core (F : Nat → Prop) (B k cap : Nat) (o : Option Addr) (M : List InsD) (po : Option Addr) (pk pcap : Nat) (cs : List Value) (L : List V4) (dp sz : Nat) (w : World) (hkL : k + L.length ≤ 800) (hr : RowP w F po pk pcap cs) (hp : PL w F cs L dp sz) (h : IR w B o k cap M) (hB : B ≤ w.heap.size)
    (HI : Hid (∀ m, m < L.length → FlatTo m)) :
    Calls Tryd.prog 40 #[.slice o k cap, .slice po pk pcap] w fun r w' => LP B w (M.map InsD.val ++ L) r w' := by
  have HR : Hid (RowP w F po pk pcap cs) := hr
  have hcap := hr.2.1
  have hcm := hr.2.2.1
  unfold maxLen at hcm
  have HCL : Hid (cs.length = pk) := hr.1
  obtain ⟨V, hV⟩ : ∃ V, M.map InsD.val ++ L = V := ⟨_, rfl⟩
  have HP0 : Hid (∃ Lr dr sr, PL w F (cs.drop 0) Lr dr sr ∧ k + Lr.length ≤ 800 ∧ Lr.length ≤ L.length ∧ M.map InsD.val ++ Lr = V) := ⟨L, dp, sz, by rw [List.drop_zero]; exact hp, hkL, Nat.le_refl _, hV⟩
  have HI0 : Hid (IR w B o k cap M) := h
  have hk2 : pk ≤ 800 := by have := hp.sizes; have := hr.1; omega
  rw [hV]
  clear hr hp h hV
  go_enter Tryd.func40, Tryd.ntmps40
  go_wp2
  go_loopw [0, 9] (fun lv i wr => ∃ j k cap : Nat, ∃ o : Option Addr, ∃ M : List InsD, lv = .slice o k cap ∧ i = .int .i64 j ∧ j ≤ pk ∧ Hid (IR wr B o k cap M) ∧ Hid (∃ Lr dr sr, PL wr F (cs.drop j) Lr dr sr ∧ k + Lr.length ≤ 800 ∧ Lr.length ≤ L.length ∧ M.map InsD.val ++ Lr = V) ∧ Hid (FK w wr) ∧ Hid (Below B w wr)) (fun _ i _ => pk - (intOf i).toNat)
  case atStart => exact ⟨0, k, cap, o, M, rfl, rfl, by omega, HI0, HP0, FK.refl _, Below.refl _ _⟩
  case round =>
    obtain ⟨j, k', cap', o', M', rfl, rfl, hj, HIR, HP, HF, HB⟩ := hrel
    clear HP0 HI0
    obtain ⟨Lr, dr, sr, hpl, hkr, hlr, hrel⟩ := HP.out
    have hBw : B ≤ wr.heap.size := Nat.le_trans hB HF.out.size
    by_cases hlt : j < pk
    · have hjc : j < cs.length := by rw [HCL.out]; exact hlt
      have hRw := HR.out.fk HF.out
      rcases hRw.2.2.2 with h0 | ⟨g, rfl, _, _, hi⟩
      · omega
      have hcell : wr.cell? ⟨g, j, none⟩ = some cs[j] := by
        rw [hi j hlt, List.getElem?_eq_getElem hjc]
      have hdr : cs.drop j = cs[j] :: cs.drop (j + 1) := List.drop_eq_getElem_cons hjc
      rw [hdr] at hpl
      clear hdr
      generalize cs[j] = c at hcell hpl
      have hki0 : (0 : Int) ≤ (j : Int) := by omega
      have hki1 : (j : Int) < (pk : Int) := by omega
      have hMl := HIR.out.len
      clear hi HP hjc hRw
      rcases hpl.inv with ⟨d, L', rfl, hok, hn, r, rfl⟩ | ⟨d, o1, k1, cap1, ci, LI, di, si, L', dp', sz', rfl, hok, hn, hr1, ri, r, rfl, rfl, rfl⟩ | ⟨d, o1, k1, cap1, ci, LI, di, si, els, o2, k2, cap2, c2, L2, d2, s2, L', dp', sz', rfl, hok, hn, hr1, ri, hr2, ri2, he, r, rfl, rfl, rfl⟩
      · have HC : Hid (Calls Tryd.prog 165 #[.agg #[.int .u8 d.op, .int .i64 d.A, .int .i64 d.B, .slice d.o d.n d.cap], .slice o' k' cap'] wr fun r w' => LP B wr (M'.map InsD.val ++ [d.val]) r w') := single_any B k' cap' o' M' d wr HIR.out (by simp at hkr; omega) hBw hok hn
        have HP2 : Hid (∀ (w' : World) (k'' : Nat) (M'' : List InsD), FK wr w' → M''.map InsD.val = M'.map InsD.val ++ [d.val] → M''.length = k'' → ∃ Lr dr sr, PL w' F (cs.drop (j + 1)) Lr dr sr ∧ k'' + Lr.length ≤ 800 ∧ Lr.length ≤ L.length ∧ M''.map InsD.val ++ Lr = V) := fun w' k'' M'' hf hm hl => by
          have hl2 := congrArg List.length hm
          simp at hl2 hkr hlr
          exact ⟨L', _, _, r.fk hf, by omega, by omega, by rw [hm, ← hrel]; simp⟩
        clear r hpl hlr hrel hkr hok HIR
        go_wp2_with fail
        refine HC.out.mono ?_
        rintro r w2 ⟨o3, k3, cap3, M3, rfl, hI3, hM3, hF3, hB3⟩
        have HI3 : Hid (type_of% hI3) := hI3
        have HP3 : Hid (∃ Lr dr sr, PL w2 F (cs.drop (j + 1)) Lr dr sr ∧ k3 + Lr.length ≤ 800 ∧ Lr.length ≤ L.length ∧ M3.map InsD.val ++ Lr = V) := HP2.out w2 k3 M3 hF3 hM3 hI3.len
        have HF3 : Hid (FK w w2) := HF.out.trans hF3
        have HB3 : Hid (Below B w w2) := HB.out.trans hB3
        clear hI3 hM3 hF3 hB3 HC HP2 HF HB hcell
        go_wp2
        go_roundw
        case rel => exact ⟨j + 1, k3, cap3, o3, M3, rfl, by go_num, by omega, HI3, HP3, HF3, HB3⟩
        case measure => simp [intOf]; omega
      · have hmem : ∀ w' (o' : Option Addr) (k'' cap' : Nat) (M'' : List InsD), FK wr w' → Below B wr w' → IR w' B o' k'' cap' M'' → k'' = k' + 1 → Calls Tryd.prog 40 #[.slice o' k'' cap', .slice o1 k1 cap1] w' fun r w'' => LP B w' (M''.map InsD.val ++ LI) r w'' := fun w' o' k'' cap' M'' hf hb hir hk => HI.out LI.length (by simp at hlr; omega) F B k'' cap' o' M'' o1 k1 cap1 ci LI di si w' (Nat.le_refl _) (by simp at hkr; omega) (hr1.fk hf) (ri.fk hf) hir (Nat.le_trans hBw hf.size)
        have HC : Hid (Calls Tryd.prog 162 #[.agg #[.int .u8 d.op, .int .i64 d.A, .int .i64 d.B, .slice d.o d.n d.cap, .slice o1 k1 cap1], .slice o' k' cap'] wr fun r w' => LP B wr (M'.map InsD.val ++ d.val :: (LI ++ [endV])) r w') :=
          block_core B k' cap' o' M' d o1 k1 cap1 LI wr (by simp at hkr; omega) hBw hMl fun w' b => front_core B k' cap' o' M' d o1 k1 cap1 LI w' (HIR.out.under b) (by simp at hkr; omega) (Nat.le_trans hBw b.size) (hok.fk (FK.of_below b)) hn fun o'' cap'' M'' w'' hf hb hir => hmem w'' o'' _ cap'' M'' ((FK.of_below b).trans hf) ((b.mono hBw).trans hb) hir rfl
        have HP2 : Hid (∀ (w' : World) (k'' : Nat) (M'' : List InsD), FK wr w' → M''.map InsD.val = M'.map InsD.val ++ d.val :: (LI ++ [endV]) → M''.length = k'' → ∃ Lr dr sr, PL w' F (cs.drop (j + 1)) Lr dr sr ∧ k'' + Lr.length ≤ 800 ∧ Lr.length ≤ L.length ∧ M''.map InsD.val ++ Lr = V) := fun w' k'' M'' hf hm hl => by
          have hl2 := congrArg List.length hm
          simp at hl2 hkr hlr
          exact ⟨L', _, _, r.fk hf, by omega, by omega, by rw [hm, ← hrel]; simp⟩
        clear r hpl hlr hrel hkr hok HIR hmem ri hr1
        go_wp2_with fail
        refine HC.out.mono ?_
        rintro r w2 ⟨o3, k3, cap3, M3, rfl, hI3, hM3, hF3, hB3⟩
        have HI3 : Hid (type_of% hI3) := hI3
        have HP3 : Hid (∃ Lr dr sr, PL w2 F (cs.drop (j + 1)) Lr dr sr ∧ k3 + Lr.length ≤ 800 ∧ Lr.length ≤ L.length ∧ M3.map InsD.val ++ Lr = V) := HP2.out w2 k3 M3 hF3 hM3 hI3.len
        have HF3 : Hid (FK w w2) := HF.out.trans hF3
        have HB3 : Hid (Below B w w2) := HB.out.trans hB3
        clear hI3 hM3 hF3 hB3 HC HP2 HF HB hcell
        go_wp2
        go_roundw
        case rel => exact ⟨j + 1, k3, cap3, o3, M3, rfl, by go_num, by omega, HI3, HP3, HF3, HB3⟩
        case measure => simp [intOf]; omega
      · have hmem : ∀ w' (o' : Option Addr) (k'' cap' : Nat) (M'' : List InsD), FK wr w' → Below B wr w' → IR w' B o' k'' cap' M'' → k'' = k' + 1 → Calls Tryd.prog 40 #[.slice o' k'' cap', .slice o1 k1 cap1] w' fun r w'' => LP B w' (M''.map InsD.val ++ LI) r w'' := fun w' o' k'' cap' M'' hf hb hir hk => HI.out LI.length (by simp at hlr; omega) F B k'' cap' o' M'' o1 k1 cap1 ci LI di si w' (Nat.le_refl _) (by simp at hkr; omega) (hr1.fk hf) (ri.fk hf) hir (Nat.le_trans hBw hf.size)
        have hfr : ∀ w', Below wr.heap.size wr w' → Calls Tryd.prog 163 #[.agg #[.int .u8 d.op, .int .i64 d.A, .int .i64 d.B, .slice d.o d.n d.cap, .slice o1 k1 cap1], .slice o' k' cap'] w' fun r w'' => LP B w' (M'.map InsD.val ++ d.val :: LI) r w'' := fun w' b => front_core B k' cap' o' M' d o1 k1 cap1 LI w' (HIR.out.under b) (by simp at hkr; omega) (Nat.le_trans hBw b.size) (hok.fk (FK.of_below b)) hn fun o'' cap'' M'' w'' hf hb hir => hmem w'' o'' _ cap'' M'' ((FK.of_below b).trans hf) ((b.mono hBw).trans hb) hir rfl
        have hln := els_len ri2 he
        have HC : Hid (Calls Tryd.prog 164 #[.agg #[.int .u8 d.op, .int .i64 d.A, .int .i64 d.B, .slice d.o d.n d.cap, .slice o1 k1 cap1, .bool els, .slice o2 k2 cap2], .slice o' k' cap'] wr fun r w' => LP B wr (M'.map InsD.val ++ d.val :: (LI ++ ((if els = true then elseV :: L2 else []) ++ [endV]))) r w') := by
          cases els with
          | false => exact choice_core0 B k' cap' o' M' d o1 k1 cap1 LI o2 k2 cap2 wr (by simp at hkr; omega) hBw hMl hfr
          | true => exact choice_core1 B k' cap' o' M' d o1 k1 cap1 LI o2 k2 cap2 L2 wr (by simp at hkr; omega) hBw hMl hfr fun o'' k'' cap'' M'' w' hf hb hir hk => HI.out L2.length (by simp at hlr; omega) F B k'' cap'' o'' M'' o2 k2 cap2 c2 L2 d2 s2 w' (Nat.le_refl _) (by simp at hkr; omega) (hr2.fk hf) (ri2.fk hf) hir (Nat.le_trans hBw hf.size)
        have HP2 : Hid (∀ (w' : World) (k'' : Nat) (M'' : List InsD), FK wr w' → M''.map InsD.val = M'.map InsD.val ++ d.val :: (LI ++ ((if els = true then elseV :: L2 else []) ++ [endV])) → M''.length = k'' → ∃ Lr dr sr, PL w' F (cs.drop (j + 1)) Lr dr sr ∧ k'' + Lr.length ≤ 800 ∧ Lr.length ≤ L.length ∧ M''.map InsD.val ++ Lr = V) := fun w' k'' M'' hf hm hl => by
          have hl2 := congrArg List.length hm
          simp only [List.length_append, List.length_cons, List.length_map, List.length_nil] at hl2 hkr hlr
          exact ⟨L', _, _, r.fk hf, by omega, by omega, by rw [hm, ← hrel]; simp⟩
        clear r hpl hlr hrel hkr hok HIR hmem ri hr1 ri2 hr2 he hfr hln
        go_wp2_with fail
        refine HC.out.mono ?_
        rintro r w2 ⟨o3, k3, cap3, M3, rfl, hI3, hM3, hF3, hB3⟩
        have HI3 : Hid (type_of% hI3) := hI3
        have HP3 : Hid (∃ Lr dr sr, PL w2 F (cs.drop (j + 1)) Lr dr sr ∧ k3 + Lr.length ≤ 800 ∧ Lr.length ≤ L.length ∧ M3.map InsD.val ++ Lr = V) := HP2.out w2 k3 M3 hF3 hM3 hI3.len
        have HF3 : Hid (FK w w2) := HF.out.trans hF3
        have HB3 : Hid (Below B w w2) := HB.out.trans hB3
        clear hI3 hM3 hF3 hB3 HC HP2 HF HB hcell
        go_wp2
        go_roundw
        case rel => exact ⟨j + 1, k3, cap3, o3, M3, rfl, by go_num, by omega, HI3, HP3, HF3, HB3⟩
        case measure => simp [intOf]; omega
    · have hd : cs.drop j = [] := List.drop_eq_nil_of_le (by rw [HCL.out]; omega)
      rw [hd] at hpl
      obtain ⟨rfl, rfl, rfl⟩ := hpl.inv_nil
      rw [List.append_nil] at hrel
      have HV : Hid (type_of% hrel) := hrel
      clear hrel hpl hd HP
      go_wp2
      go_ret
      exact ⟨o', k', cap', M', rfl, HIR.out, HV.out, HF.out, HB.out⟩
/-- The program's own flatAll. -/
theorem flatAll_any : ∀ m, FlatTo m
  | 0 => fun F B k cap o M po pk pcap cs L dp sz w hm hkL hr hp h hB => flatAll_core F B k cap o M po pk pcap cs L dp sz w hkL hr hp h hB fun m' hm' => by omega
  | m + 1 => fun F B k cap o M po pk pcap cs L dp sz w hm hkL hr hp h hB => flatAll_core F B k cap o M po pk pcap cs L dp sz w hkL hr hp h hB fun m' hm' => fun F B k cap o M po pk pcap cs L dp sz w hm2 hkL hr hp h hB => flatAll_any m F B k cap o M po pk pcap cs L dp sz w (by omega) hkL hr hp h hB

end Go.Proofs.YtmbficofcmfmlaaDoor
