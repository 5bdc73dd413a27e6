/-
  Package num: Put at any width; the text that a list of bytes makes.
-/
import Derived.Test.YtkhgaolaaiekjaaDoorNumF
import Derived.Laws.IdiomStrings
import Derived.Laws.BytesArg
import Derived.Lib.SlBytesConst
namespace Go.Proofs.YtkhgaolaaiekjaaDoor
open Go.RowKit

theorem put_any (B g : Nat) (v : Value) (bs : List UInt8) (n x : Int) (w : World) (h : OutAt w B g v bs) (hx0 : 0 ≤ x) (hx : x < 18446744073709551616) (hl : bs.length ≤ 140737488355320) :
    Calls Tryd.prog 34 #[.pointer (some ⟨g, 0, none⟩), .int .i64 n, .int .u64 x] w (OutStep w B g v (bs ++ putI n x)) := by
  by_cases hn : 1 ≤ n ∧ n ≤ 8
  · obtain ⟨m, rfl⟩ : ∃ m : Nat, n = (m : Int) := ⟨n.toNat, by omega⟩
    obtain ⟨y, rfl⟩ : ∃ y : Nat, x = (y : Int) := ⟨x.toNat, by omega⟩
    have e : putI (m : Int) (y : Int) = putB m y := by rw [putI, if_pos hn]; simp
    rw [e]
    exact put_yes B g v bs m y w h (by omega) (by omega) (by omega) (by omega)
  · have e : putI n x = [] := by rw [putI, if_neg hn]
    rw [e, List.append_nil]
    exact put_no B g v bs n x w h (by omega)

end Go.Proofs.YtkhgaolaaiekjaaDoor
