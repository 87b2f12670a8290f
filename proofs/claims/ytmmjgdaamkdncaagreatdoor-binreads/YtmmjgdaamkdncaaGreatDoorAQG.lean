import Derived.Test.YtmmjgdaamkdncaaGreatDoorAQN
namespace Go.Proofs.YtmmjgdaamkdncaaGreatDoor
set_option linter.unusedVariables false
open Go.RowKit
theorem NumD.ok.at1 {k : IntKind} {w0 : World} {d : NumD} {N : Nat} (h : d.ok k w0) (hN : w0.heap.size <= N) : d.xs = [] \/ ∃ b f,d.o = some ⟨b,f,none⟩ /\ b < N /\ ∀ i (h : i < d.xs.length) r,r < 1 -> w0.cell? ⟨b,f + i * 1 + r,none⟩ = ([Value.int k d.xs[i]])[r]? := by
 rcases h.at' with h0 | ⟨a,h1,h2,h3⟩
 ·left
  have := h.len
  rw [h0] at this
  exact List.length_eq_zero_iff.1 this
 ·rcases Nat.eq_zero_or_pos d.n with h0 | h0
  ·left
   have := h.len
   rw [h0] at this
   exact List.length_eq_zero_iff.1 this
  ·right
   obtain ⟨b,f,sp⟩ := a
   have hc0 := h3 0 h0
   have hsp : sp = none := by simpa [Addr.add] using World.cell?_spot hc0
   subst hsp
   refine ⟨b,f,h1,by have h2 : b < w0.heap.size := h2; omega,fun i hi r hr => ?_⟩
   obtain rfl : r = 0 := by omega
   have hadd : (⟨b,f,none⟩ : Addr).add i = ⟨b,f + i,none⟩ := by unfold Addr.add; split <;> simp_all
   have := h3 i (by rw [<- h.len]; exact hi)
   rw [hadd] at this
   rw [Nat.mul_one,Nat.add_zero,this,List.getD_eq_getElem?_getD,List.getElem?_eq_getElem hi]
   rfl
end Go.Proofs.YtmmjgdaamkdncaaGreatDoor
