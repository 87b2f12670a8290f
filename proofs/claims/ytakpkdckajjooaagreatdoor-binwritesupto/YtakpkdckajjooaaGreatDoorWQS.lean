/-
 The document's own Eq of two lists of parts: whether they are one.
-/
import Derived.Test.YtakpkdckajjooaaGreatDoorWQG
import Derived.Laws.StructEq
namespace Go.Proofs.YtakpkdckajjooaaGreatDoor
set_option linter.unusedVariables false
open Go.RowKit
theorem bytes_inj {s t : ByteArray} (h : s.toList = t.toList) : s = t := by
 rw [ByteArray.toList_eq, ByteArray.toList_eq] at h
 obtain ⟨⟨x⟩⟩ := s
 obtain ⟨⟨y⟩⟩ := t
 simp at h
 rw [h]
theorem nums_inj {s t : ByteArray} (h : nums s = nums t) : s = t := by
 apply bytes_inj
 rw [ByteArray.toList_eq, ByteArray.toList_eq]
 unfold nums at h
 exact (List.map_inj_right (fun a b e => by have := UInt8.toNat_inj.1 (Int.ofNat_inj.1 e); exact this)).1 h
end Go.Proofs.YtakpkdckajjooaaGreatDoor
