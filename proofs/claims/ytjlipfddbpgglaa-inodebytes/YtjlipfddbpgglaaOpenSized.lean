/-
  Arguments opened: a list of bytes is no longer than the form's own reach.
-/
import Derived.Test.YtjlipfddbpgglaaOpenArgs
import Derived.SizedLaws
namespace Go.Proofs.Ytjlipfddbpgglaa
open Go.ChangeShapes Go.WideShapes Go.RowKit Go.Deep

section
variable {H : Type} {enc : TypeId × Value → H} {P : Program} {w : World} {base : Nat} {spare : Nat → Bool} {held : Bool}

theorem bytes_reach {t e : TypeId} {fuel : Nat} {A : Option Addr} {n c : Nat} {d : DataW H} {p : List MemPlace} (ht : P.underlying t = some (.slice e)) (he : P.underlying e = some (.int .u8)) (hc : P.cellsOf e = 1) (hb : P.bytesOf e = 1)
    (h : DataW.trod enc P w base spare held fuel t [.slice A n c] = some (d, p)) {ts : List TypeId} {ds : List (DataW H)} {j : Nat} (hz : (DataW.weightsEach P ts ds).all (· ≤ reachBytes) = true) (hj : ts[j]? = some t) (hd : ds[j]? = some d) : n ≤ 140737488351232 := by
  rcases open_ints ht he hc h with ⟨e1, _⟩ | ⟨a, len, cap, zs, e1, _, hl, hm, hzs, hx, hcell, hwf⟩
  · injection e1 with e1 _
    injection e1 with _ e1 _
    omega
  · injection e1 with e1 _
    injection e1 with _ e2 _
    injection hx with hx _
    rw [hx] at hd
    have := sized_slice hz hj hd ht
    rw [hb, Nat.mul_one] at this
    have hlz : len ≤ zs.length := by rw [hzs]; split <;> omega
    simp only [lits, List.length_map, List.length_take, List.length_drop, reachBytes] at this
    omega
end
end Go.Proofs.Ytjlipfddbpgglaa
