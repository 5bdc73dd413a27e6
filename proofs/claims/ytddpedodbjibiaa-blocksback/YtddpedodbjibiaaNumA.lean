/-
  The small functions of package num: what each call answers and what it does to memory.
-/
import Derived.Test.YtddpedodbjibiaaRows
import Derived.Test.YtddpedodbjibiaaMem
import Derived.WalkKit
import Derived.WalkSpells
import Derived.WalkLawsBesides
import Derived.Lib.Hide
import Derived.Laws.IdiomStrings
import Derived.Laws.BytesArg
import Derived.Lib.SlBytesConst
namespace Go.Proofs.Ytddpedodbjibiaa
open Go.RowKit

theorem Try.info8 : (Try.prog.info? 5).map (fun i => (i.zero, i.size, i.bytes)) = some (some (.int .u8 0), 1, 1) := by kernel_rfl

def Cloned (w : World) (bs : List UInt8) (e : Ending) (w' : World) : Prop :=
  ∃ v, e = .returned v ∧ w'.ownsRow w.heap.size 5 1 v bs.length (b8s bs) ∧ Below w.heap.size w w'

theorem owns_slice {w : World} {B : Nat} {v : Value} {bs : List UInt8} (h : w.ownsRow B 5 1 v bs.length (b8s bs)) :
    ∃ A c, v = .slice A bs.length c ∧ bs.length ≤ c ∧ c ≤ maxLen ∧ Rd w B w.heap.size A bs := by
  rcases h.2 with ⟨rfl, h0⟩ | ⟨g, cap, cur, rfl, _, _, h1, h2, _⟩
  · refine ⟨none, 0, by rw [h0], by omega, by simp [maxLen], ?_⟩
    intro hn
    omega
  · exact ⟨_, cap, rfl, h1, h2, Rd.of_own h⟩
theorem owns_SlIs {w : World} {B : Nat} {v : Value} {bs : List UInt8} (h : w.ownsRow B 5 1 v bs.length (b8s bs)) : SlIs w B w.heap.size v bs := owns_slice h

/-- The text that bytes make. -/
def strOf (l : List UInt8) : ByteArray := ⟨l.toArray⟩
theorem strOf_toList (l : List UInt8) : (strOf l).data.toList = l := rfl
theorem strOf_list (l : List UInt8) : (strOf l).toList = l := Go.ByteArray.toList_mk l
theorem strOf_inj {l m : List UInt8} (h : strOf l = strOf m) : l = m := by
  have := congrArg (fun s => s.data.toList) h
  simpa [strOf] using this

theorem SlIs.alloc {w : World} {lo hi : Nat} {v : Value} {bs : List UInt8} {o : Obj} (h : SlIs w lo hi v bs) (hh : hi ≤ w.heap.size) : SlIs (w.alloc o) lo hi v bs := by
  obtain ⟨A, c, e, h1, h2, h3⟩ := h
  exact ⟨A, c, e, h1, h2, h3.keep fun p _ hp => World.cell?_alloc_lt w o p (by omega)⟩
theorem SlIs.only {a b : World} {S : Nat → Prop} {lo hi : Nat} {v : Value} {bs : List UInt8} (h : SlIs a lo hi v bs) (k : Only S a b) (hh : hi ≤ a.heap.size) (hn : ∀ i, lo ≤ i → i < hi → ¬ S i) : SlIs b lo hi v bs := by
  obtain ⟨A, c, e, h1, h2, h3⟩ := h
  exact ⟨A, c, e, h1, h2, h3.only k hh hn⟩

/-- A row of bytes that was just laid, whatever its mark. -/
theorem lit_SlIs (w : World) (t : TypeId) (fr : Nat × Nat) (bs : List UInt8) (n : Nat) (hn : n = bs.length) (hm : n ≤ maxLen) :
    SlIs (w.alloc (.cells (b8s bs).toArray t fr)) w.heap.size (w.heap.size + 1) (.slice (some ⟨w.heap.size, 0, none⟩) n n) bs := by
  subst hn
  refine ⟨_, _, rfl, Nat.le_refl _, hm, fun _ => ⟨_, rfl, Nat.le_refl _, Nat.lt_succ_self _, ?_⟩⟩
  have h := World.news_of_block (B := w.heap.size) (heap_alloc_new w (.cells (b8s bs).toArray t fr))
  simpa using h

end Go.Proofs.Ytddpedodbjibiaa
