import Derived.Test.YtmmjgdaamkdncaaGreatDoorAQT
import Derived.Test.YtmmjgdaamkdncaaGreatDoorAQE
namespace Go.Proofs.YtmmjgdaamkdncaaGreatDoor
set_option linter.unusedVariables false
open Go.RowKit
theorem xzC (m : ModD) : (mcA m).all (·.oneCell') = true := by simp [mcA,Value.oneCell']
theorem xrC : mcA modZero = #[.slice none 0 0,.slice none 0 0,.slice none 0 0,.int .i64 0,.int .i64 0,.int .i64 0,.slice none 0 0,.slice none 0 0,.int .i64 0,.slice none 0 0,.slice none 0 0] := rfl
theorem xwP (w : World) (Z C : Array Value) (T : TypeId) : ((w.alloc (.cells Z T)).setRow w.heap.size C).heap[w.heap.size]? = some (.cells C T (0,0)) /\ Below w.heap.size w ((w.alloc (.cells Z T)).setRow w.heap.size C) := by
 have h := xaZ w (.cells Z T)
 have hr := setRow_heap (w.alloc (.cells Z T)) w.heap.size _ C _ _ h
 have hc : Chg w.heap.size (w.alloc (.cells Z T)) ((w.alloc (.cells Z T)).setRow w.heap.size C) := ⟨rfl,rfl,rfl,by simp [World.setRow],fun j _ hj => setRow_other (w.alloc (.cells Z T)) w.heap.size j C hj⟩
 have b1 : Below w.heap.size w (w.alloc (.cells Z T)) := (Below.refl _ _).alloc (Nat.le_refl _) _
 exact ⟨hr,b1.trans (hc.below (Nat.le_refl _) b1.size)⟩
theorem xrS (s : ByteArray) (hs : s.size <= maxLen) (w : World) (hA : Amb w) :
  Calls Tryz.prog 4 #[.string s] w fun r w' => Below w.heap.size w w' /\ ((∃ e,xmM (xaX s) = .error e /\ e ≠ 0 /\ r = .returned (.tuple #[.agg (mcA modZero),.int .i64 e])) \/ ∃ m : ModD,xmM (xaX s) = .ok m.val /\ r = .returned (.tuple #[.agg (mcA m),.int .i64 0]) /\ m.ok w') := by
 refine (xzK s hs w hA).mono ?_
 rintro r w' ⟨b,⟨e,he,rfl⟩ | ⟨m,C,hC,hm,rfl,hg⟩⟩
 ·exact ⟨b,Or.inl ⟨e,he,xvG _ he,by rw [xrC]⟩⟩
 ·exact ⟨b,Or.inr ⟨m,hm,by rw [hC.out],hg.ok⟩⟩
theorem xuP (w : World) : modZero.ok w :=
 have h : ∀ {α : Type} (k : Nat) (cs : α -> List Value) (ok : World -> α -> Prop),RowsOf w k cs ok none 0 [] := fun _ _ _ => ⟨Nat.le_refl _,Nat.zero_le _,fun _ => rfl,fun _ hd => (by cases hd),Or.inl rfl⟩
 have z : inI 0 := ⟨by decide,by decide⟩
 ⟨h _ _ _,h _ _ _,h _ _ _,z,z,z,h _ _ _,h _ _ _,z,h _ _ _,h _ _ _⟩
end Go.Proofs.YtmmjgdaamkdncaaGreatDoor
