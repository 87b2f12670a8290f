/-
  What the program's own nest.Check does.
-/
import Derived.Test.YtgdleahhkaolbaaDoorNest2
namespace Go.Proofs.YtgdleahhkaolbaaDoor
open Go.RowKit

/-- An instruction of a body: its cells, and the numbers of its list. -/
structure InsD where
  op : Int
  A : Int
  B : Int
  o : Option Addr
  n : Nat
  cap : Nat
  xs : List Int
structure InsD.ok (w : World) (d : InsD) : Prop where
  op0 : 0 ≤ d.op
  op1 : d.op ≤ 255
  a : -9223372036854775808 ≤ d.A ∧ d.A ≤ 9223372036854775807
  cap : d.n ≤ d.cap
  most : d.cap ≤ maxLen
  lj : LJ w d.o d.n d.xs
  nil : d.o = none → d.cap = 0
theorem InsD.ok.below {w w' : World} {d : InsD} (h : d.ok w) (b : Below w.heap.size w w') : d.ok w' := ⟨h.op0, h.op1, h.a, h.cap, h.most, h.lj.below b, h.nil⟩
/-- A list of instructions. -/
def LD (w : World) (o : Option Addr) (L : List InsD) : Prop := (∀ d ∈ L, d.ok w) ∧ (L = [] ∨ ∃ b f, o = some ⟨b, f, none⟩ ∧ b < w.heap.size ∧ ∀ i (h : i < L.length), w.cell? ⟨b, f + i * 4, none⟩ = some (.int .u8 (L[i]).op) ∧ w.cell? ⟨b, f + i * 4 + 1, none⟩ = some (.int .i64 (L[i]).A) ∧ w.cell? ⟨b, f + i * 4 + 2, none⟩ = some (.int .i64 (L[i]).B) ∧ w.cell? ⟨b, f + i * 4 + 3, none⟩ = some (.slice (L[i]).o (L[i]).n (L[i]).cap))
theorem LD.below {w w' : World} {o : Option Addr} {L : List InsD} (h : LD w o L) (b : Below w.heap.size w w') : LD w' o L := by
  obtain ⟨h1, h2⟩ := h
  refine ⟨fun d hd => (h1 d hd).below b, ?_⟩
  rcases h2 with h2 | ⟨bb, f, e, hb, hc⟩
  · exact Or.inl h2
  · refine Or.inr ⟨bb, f, e, Nat.lt_of_lt_of_le hb b.size, fun i hi => ?_⟩
    rw [b.cell (p := ⟨bb, f + i * 4, none⟩) hb, b.cell (p := ⟨bb, f + i * 4 + 1, none⟩) hb, b.cell (p := ⟨bb, f + i * 4 + 2, none⟩) hb, b.cell (p := ⟨bb, f + i * 4 + 3, none⟩) hb]
    exact hc i hi
/-- What Check says of an instruction. -/
def chkD (d : InsD) : Int := chkV d.op d.A d.B d.n d.xs
/-- How far a body is gone through. -/
def nRun : List InsD → List Int → Bool → Int × List Int × Bool
  | [], bs, en => (0, bs, en)
  | d :: L, bs, en => if (nStep (chkD d) d.op bs en).1 = 0 then nRun L (nStep (chkD d) d.op bs en).2.1 (nStep (chkD d) d.op bs en).2.2 else nStep (chkD d) d.op bs en
/-- What Check says of a body. -/
def nChk (L : List InsD) : Int := if 200 < L.length then 2 else if (nRun L [] false).1 = 0 then (if (nRun L [] false).2.2 = true then 0 else 3) else (nRun L [] false).1
theorem nStep_len (c op : Int) (bs : List Int) (en : Bool) (h : bs.length ≤ 12) : (nStep c op bs en).2.1.length ≤ 12 := by
  unfold nStep
  split
  · exact h
  split
  · exact h
  split
  · split
    · exact h
    · simp; omega
  split
  · split
    · rename_i hl
      have hne : bs ≠ [] := by intro e; subst e; simp at hl
      have : 0 < bs.length := List.length_pos_iff.2 hne
      simp; omega
    · exact h
  split
  · split
    · simp
    · simp at h ⊢; omega
  · exact h
set_option maxHeartbeats 2000000 in
set_option maxRecDepth 1000000 in
theorem ncheck_large (o : Option Addr) (n cap : Nat) (_hn : 200 < n) (w : World) :
    Calls Tryd.prog 26 #[.slice o n cap] w fun r w' => r = .returned (.int .i64 2) ∧ w' = w := by
  go_enter Tryd.func26, Tryd.ntmps26
  go_wp2
  go_ret
  exact ⟨rfl, rfl⟩
set_option maxHeartbeats 4000000 in
set_option maxRecDepth 1000000 in
theorem ncheck_few (o : Option Addr) (cap n : Nat) (L : List InsD) (R : Int × List Int × Bool) (hl : L.length = n) (hn : n ≤ 200) (w : World) (h : LD w o L) (HR0 : Hid (nRun L [] false = R))
    (HCK : Hid (∀ d ∈ L, ∀ w', Below w.heap.size w w' → Calls Tryd.prog 16 #[.agg #[.int .u8 d.op, .int .i64 d.A, .int .i64 d.B, .slice d.o d.n d.cap]] w' fun r w'' => r = .returned (.int .i64 (chkD d)) ∧ Below w'.heap.size w' w'')) :
    Calls Tryd.prog 26 #[.slice o n cap] w fun r w' => r = .returned (.int .i64 (if R.1 = 0 then (if R.2.2 = true then 0 else 3) else R.1)) ∧ Below w.heap.size w w' := by
  obtain ⟨V, hV⟩ : ∃ V, (if R.1 = 0 then (if R.2.2 = true then (0 : Int) else 3) else R.1) = V := ⟨_, rfl⟩
  rw [hV]
  have HV : Hid ((if R.1 = 0 then (if R.2.2 = true then (0 : Int) else 3) else R.1) = V) := hV
  clear hV
  have HLn : Hid (L.length = n) := hl
  have HLD : Hid (LD w o L) := h
  have HN0 : Hid (NS (w.alloc (.cells #[.slice none 0 0, .bool false] 106)) w.heap.size w.heap.size [] false) := ⟨none, 0, new_block _ _, World.ownsRow_nil _ _ _ _, by simp, Nat.le_refl _⟩
  have HB0 : Hid (Below w.heap.size w (w.alloc (.cells #[.slice none 0 0, .bool false] 106))) := (Below.refl _ _).alloc (Nat.le_refl _) _
  clear hl h
  have hni : (n : Int) ≤ 200 := by omega
  go_enter Tryd.func26, Tryd.ntmps26
  go_wp2
  go_loopw [12] (fun i wr => ∃ k : Nat, ∃ bs : List Int, ∃ en : Bool, i = .int .i64 k ∧ k ≤ n ∧ bs.length ≤ 12 ∧ Hid (NS wr w.heap.size w.heap.size bs en) ∧ Hid (nRun (L.drop k) bs en = R) ∧ Hid (Below w.heap.size w wr)) (fun i _ => n - (intOf i).toNat)
  case atStart => exact ⟨0, [], false, rfl, by omega, by simp, HN0, HR0, HB0⟩
  case round =>
    obtain ⟨k, bs, en, rfl, hk, hbs, HN, HR, HB⟩ := hrel
    clear HN0 HB0 HR0
    have hw : w.heap.size < wr.heap.size := HN.out.lt
    by_cases hlt : k < n
    · have hkl : k < L.length := by rw [HLn.out]; exact hlt
      have hdr : L.drop k = L[k] :: L.drop (k + 1) := List.drop_eq_getElem_cons hkl
      have hmem : L[k] ∈ L := List.getElem_mem hkl
      rcases HLD.out.2 with h0 | ⟨b, f, rfl, hbw, hc⟩
      · exfalso; rw [h0] at hkl; simp at hkl
      obtain ⟨m0, m1, m2, m3⟩ := hc k hkl
      have HCd := HCK.out _ hmem
      have HR1 := HR.out
      rw [hdr, nRun] at HR1
      have e0 := HB.out.cell (p := ⟨b, f + k * 4, none⟩) hbw
      have e1 := HB.out.cell (p := ⟨b, f + k * 4 + 1, none⟩) hbw
      have e2 := HB.out.cell (p := ⟨b, f + k * 4 + 2, none⟩) hbw
      have e3 := HB.out.cell (p := ⟨b, f + k * 4 + 3, none⟩) hbw
      rw [m0] at e0
      rw [m1] at e1
      rw [m2] at e2
      rw [m3] at e3
      generalize L[k] = d at e0 e1 e2 e3 HCd HR1
      clear hc m0 m1 m2 m3 hdr hmem HR
      have hlen := nStep_len (chkD d) d.op bs en hbs
      have HST : Hid (∀ w', NS w' w.heap.size w.heap.size bs en → Below w.heap.size w w' → Calls Tryd.prog 70 #[.pointer (some ⟨w.heap.size, 0, none⟩), .agg #[.int .u8 d.op, .int .i64 d.A, .int .i64 d.B, .slice d.o d.n d.cap]] w' fun r w'' => r = .returned (.int .i64 (nStep (chkD d) d.op bs en).1) ∧ NS w'' w.heap.size w.heap.size (nStep (chkD d) d.op bs en).2.1 (nStep (chkD d) d.op bs en).2.2 ∧ Below w.heap.size w' w'') := fun w' hn hb => step_any w.heap.size w.heap.size bs en d.op d.A d.B (chkD d) d.o d.n d.cap w' hn hbs hb.size (fun w2 b2 => HCd w2 (hb.trans (b2.mono hb.size)))
      have HR2 : Hid (type_of% HR1) := HR1
      clear HCd HR1
      obtain ⟨⟨r0, bs2, en2⟩, hs⟩ : ∃ m, nStep (chkD d) d.op bs en = m := ⟨_, rfl⟩
      rw [hs] at HST HR2 hlen
      dsimp only at HST HR2 hlen
      clear hs
      have hki0 : (0 : Int) ≤ (k : Int) := by omega
      have hki1 : (k : Int) < (n : Int) := by omega
      go_wp2_with fail
      refine (HST.out _ (HN.out.under ((Below.refl _ _).alloc (Nat.le_refl _) _)) (HB.out.alloc (by omega) _)).mono ?_
      rintro e w2 ⟨rfl, n2, b2⟩
      have HN2 : Hid (type_of% n2) := n2
      have HB2 : Hid (Below w.heap.size w w2) := (HB.out.alloc (by omega) _).trans b2
      clear n2 b2 HST HN HB e0 e1 e2 e3
      by_cases hr0 : r0 = 0
      · subst hr0
        have HR3 : Hid (nRun (L.drop (k + 1)) bs2 en2 = R) := by
          have := HR2.out
          rw [if_pos rfl] at this
          exact this
        clear HR2
        go_wp2
        go_roundw
        case rel => exact ⟨k + 1, bs2, en2, by go_num, by omega, hlen, HN2, HR3, HB2⟩
        case measure => simp [intOf]; omega
      · have hb0 : (r0 == 0) = false := by rw [beq_eq_false_iff_ne]; exact hr0
        have hn0 : (r0 != 0) = true := by rw [bne, hb0]; rfl
        have HR3 : Hid ((r0, bs2, en2) = R) := by
          have := HR2.out
          rw [if_neg hr0] at this
          exact this
        clear HR2
        go_wp2
        go_ret
        refine ⟨?_, HB2.out⟩
        have := HV.out
        rw [← HR3.out, if_neg hr0] at this
        rw [← this]
        rfl
    · have HR3 : Hid (((0 : Int), bs, en) = R) := by
        have := HR.out
        rw [List.drop_eq_nil_of_le (by rw [HLn.out]; omega), nRun] at this
        exact this
      have hc1 := HN.out.cells
      clear HR
      cases en
      · go_wp2
        go_ret
        refine ⟨?_, HB.out⟩
        have := HV.out
        rw [← HR3.out] at this
        rw [← this]
        rfl
      · go_wp2
        go_ret
        refine ⟨?_, HB.out⟩
        have := HV.out
        rw [← HR3.out] at this
        rw [← this]
        rfl
/-- The program's own Check of a body. -/
theorem ncheck_any (o : Option Addr) (cap : Nat) (L : List InsD) (w : World) (h : LD w o L) (hT : TabIn w) (ht0 : 1 < w.heap.size) :
    Calls Tryd.prog 26 #[.slice o L.length cap] w fun r w' => r = .returned (.int .i64 (nChk L)) ∧ Below w.heap.size w w' := by
  unfold nChk
  by_cases hn : 200 < L.length
  · rw [if_pos hn]
    refine (ncheck_large o L.length cap hn w).mono ?_
    rintro r w1 ⟨rfl, rfl⟩
    exact ⟨rfl, Below.refl _ _⟩
  · rw [if_neg hn]
    refine ncheck_few o cap L.length L _ rfl (by omega) w h rfl fun d hd w' b => ?_
    have hk := h.1 d hd
    have hm := hk.most
    have hc := hk.cap
    unfold maxLen at hm
    exact check_any d.op d.A d.B d.o d.n d.cap d.xs hk.op0 hk.op1 hk.cap (by omega) w' (hk.lj.below b) (hT.chg (P := w.heap.size) (Chg.of_below b) ht0 (by omega)) (Nat.lt_of_lt_of_le ht0 b.size)

end Go.Proofs.YtgdleahhkaolbaaDoor
