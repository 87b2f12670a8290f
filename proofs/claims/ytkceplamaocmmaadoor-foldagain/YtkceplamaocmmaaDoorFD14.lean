/-
  Folding: the program's own fold.Body.
-/
import Derived.Test.YtkceplamaocmmaaDoorFK3
import Derived.Test.YtkceplamaocmmaaDoorFD13
namespace Go.Proofs.YtkceplamaocmmaaDoor
open Go.RowKit
set_option linter.unusedVariables false

/-- What Body leaves of a body. -/
structure BodyOut (L : List InsD) (w w' : World) (r : Ending) (M : List InsD) : Prop where
  ret : ∃ (o' : Option Addr) (cap' : Nat), r = .returned (.tuple #[.slice o' M.length cap', .int .i64 0]) ∧ LD w' o' M ∧ M.length ≤ cap' ∧ cap' ≤ 9223372036854775807
  fold : ∃ L' : List InsD, L'.map InsD.val = L.map InsD.val ∧ Folds L' M
  fine : Fine M
  short : M.length ≤ L.length
  nd : NdLe M L
  below : Below w.heap.size w w'
theorem Folds.end : ∀ {L M : List InsD}, Folds L M → fstC M = none
  | _, _, .done _ h => h
  | _, _, .step _ _ _ _ _ _ r => Folds.end r
set_option maxHeartbeats 4000000 in
set_option maxRecDepth 1000000 in
theorem fbody_ok (o : Option Addr) (cap : Nat) (L : List InsD) (w : World) (h : LD w o L) (hF : FA w) (hc : nChk L = 0) :
    Calls Tryd.prog 4 #[.slice o L.length cap] w fun r w' => ∃ M, BodyOut L w w' r M := by
  have hck := ncheck_any o cap L w h hF.tab hF.sz
  rw [hc] at hck
  obtain ⟨hn, hr, _, hpos⟩ := nChk_ok L hc
  have hchk := run_chk L [] false hr
  have hn16 : ∀ d ∈ L, d.n ≤ 16 := fun d hd => by
    have := hchk d hd
    unfold chkD chkV at this
    split at this
    · cases this
    split at this
    · cases this
    · omega
  have HCK : Hid (type_of% hck) := hck
  have HCL : Hid (∀ W, Below w.heap.size w W → _) := fun W bb => fcloneBody o cap L.length L W (h.below bb) rfl (by omega) (fun d hd => by have := hn16 d hd; omega)
  have HFO : Hid (∀ W (M : List InsD) (o' : Option Addr), Below w.heap.size w W → LD W o' M → M.length = L.length → M.map InsD.val = L.map InsD.val → Calls Tryd.prog 8 #[.slice o' M.length M.length] W _) := fun W M o' bb hld hm hv =>
    ffolded o' M.length M W hld ⟨Nat.le_refl _, by omega⟩ ⟨by
      rw [nChk_val hv (fun d hd => (hld.1 d hd).lj.1) (fun d hd => (h.1 d hd).lj.1)]
      exact hc, fun d hd => (hld.1 d hd).a⟩ (hF.under bb)
  have HV : Hid (∀ (M : List InsD), M.map InsD.val = L.map InsD.val → M.length = L.length) := fun M hv => val_len hv
  clear hck hn hr hpos hchk hn16 h hF hc
  obtain ⟨n, hnl⟩ : ∃ n, n = L.length := ⟨_, rfl⟩
  rw [← hnl] at HCK HCL ⊢
  have HN : Hid (n = L.length) := hnl
  clear hnl
  go_enter Tryd.func4, Tryd.ntmps4
  go_wp2_with fail
  refine HCK.out.mono ?_
  rintro r w1 ⟨rfl, b1⟩
  have HB1 : Hid (type_of% b1) := b1
  clear b1
  go_wp2_with fail
  refine (HCL.out _ HB1.out).mono ?_
  rintro r w2 ⟨M, o', rfl, hld, hm, hv, b2⟩
  have HB2 : Hid (Below w.heap.size w w2) := HB1.out.trans (b2.mono HB1.out.size)
  have hfo := HFO.out w2 M o' HB2.out hld (by rw [hm]; exact HN.out) hv
  rw [hm] at hfo
  have HF2 : Hid (type_of% hfo) := hfo
  have HVV : Hid (M.map InsD.val = L.map InsD.val) := hv
  clear hfo hld hm hv b2
  go_wp2_with fail
  refine HF2.out.mono ?_
  rintro r w3 ⟨R, o3, c3, rfl, hl3, hc3, hfold, hfine, hlen, hnd, b3⟩
  have HE : Hid (∃ M, BodyOut L w w3 (.returned (.tuple #[.slice o3 R.length c3, .int .i64 0])) M) := by
    refine ⟨R, ⟨⟨o3, c3, rfl, hl3, hc3.1, hc3.2⟩, ⟨M, HVV.out, hfold⟩, hfine, ?_, ?_, HB2.out.trans (b3.mono HB2.out.size)⟩⟩
    · rw [← HN.out]; exact hlen
    · intro o m a hm
      have := hnd o m a hm
      rw [val_ops HVV.out] at this
      exact this
  clear hl3 hc3 hfold hfine hlen hnd b3
  generalize R.length = k at *
  go_wp2
  go_ret2
  exact HE.out
set_option maxHeartbeats 4000000 in
set_option maxRecDepth 1000000 in
theorem fbody_bad (o : Option Addr) (cap : Nat) (L : List InsD) (w : World) (h : LD w o L) (hF : FA w) (hc : nChk L ≠ 0) :
    Calls Tryd.prog 4 #[.slice o L.length cap] w fun r w' => r = .returned (.tuple #[.slice none 0 0, .int .i64 (nChk L)]) ∧ Below w.heap.size w w' := by
  have hck := ncheck_any o cap L w h hF.tab hF.sz
  have HCK : Hid (type_of% hck) := hck
  have hne : (nChk L == 0) = false := by rw [beq_eq_false_iff_ne]; exact hc
  have hne2 : (nChk L != 0) = true := by rw [bne, hne]; rfl
  clear hck h hF hc
  generalize nChk L = c at *
  generalize L.length = n at *
  go_enter Tryd.func4, Tryd.ntmps4
  go_wp2_with fail
  refine HCK.out.mono ?_
  rintro r w1 ⟨rfl, b1⟩
  go_wp2
  go_ret2
  exact ⟨rfl, b1⟩
end Go.Proofs.YtkceplamaocmmaaDoor
