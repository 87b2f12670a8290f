/-
  One step of both memories, whichever it is.
-/
import Derived.Test.YtomiganjagjabaaMOpen
import Derived.Test.YtomiganjagjabaaMS1
namespace Go.Proofs.Ytomiganjagjabaa
open Go.RowKit

theorem mstep_any (B P Q g n q : Nat) (most : Int) (b : List Int) (d : StepD) (hd : d.ok) (w : World) (hB : B ≤ w.heap.size) (hM : MaxIn w) (hg : conRen.g 1 < B) (h : PD B w P Q most g n q b) :
    Calls Try.prog 7 #[.pointer (some ⟨P, 0, none⟩), .pointer (some ⟨Q, 0, none⟩), .agg #[.int .i64 d.kind, .int .u8 (d.op : Int), .int .i64 d.x, .int .i64 d.y, .int .i64 d.v, .string d.s]] w (SOut B P Q most w) := by
  have hm : ∀ W, Below B w W → MaxIn W := fun W hW => hM.of_cell (hW.cell (p := ⟨conRen.g 1, 0, none⟩) hg)
  have hlt := stpN_lt d.kind
  have hc : stpN d.kind = 0 ∨ stpN d.kind = 1 ∨ stpN d.kind = 2 ∨ stpN d.kind = 3 ∨ stpN d.kind = 4 ∨ stpN d.kind = 5 ∨ stpN d.kind = 6 := by omega
  rcases hc with hk | hk | hk | hk | hk | hk | hk
  · exact mstep0 B P Q g n q most b d.kind d.op d.x d.y d.v d.s hk w hB h fun W hdm hb => dload_all Q q most b d.op d.x d.y hd.op8 W (hm W hb) hdm
  · exact mstep1 B P Q g n q most b d.kind d.op d.x d.y d.v d.s hk w hB h fun W hdm hb => dstore_all Q q most b d.op d.x d.y d.v hd.op8 W (hm W hb) hdm
  · exact mstep2 B P Q g n q most b d.kind d.op d.x d.y d.v d.s hk w hB h fun W hdm _ => dgrow_all Q q n most d.x b h.mb.len h.nm W hdm
  · exact mstep3 B P Q g n q most b d.kind d.op d.x d.y d.v d.s hk hd.x63 w hB h fun W hdm _ => dbytes_all Q q most b d.x d.y hd.x63 W hdm
  · exact mstep4 B P Q g n q most b d.kind d.op d.x d.y d.v d.s hk hd.x63 w hB h fun W hdm _ => dput_all Q q most b d.x d.s hd.x63 W hdm
  · exact mstep5 B P Q g n q most b d.kind d.op d.x d.y d.v d.s hk w hB h
  · exact mstep6 B P Q g n q most b d.kind d.op d.x d.y d.v d.s hk w hB h
end Go.Proofs.Ytomiganjagjabaa
