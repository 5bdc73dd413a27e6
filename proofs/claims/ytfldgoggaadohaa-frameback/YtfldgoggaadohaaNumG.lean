/-
  Package num: Put at any width; the text that a list of bytes makes.
-/
import Derived.Test.YtfldgoggaadohaaNumF
import Derived.Laws.IdiomStrings
import Derived.Laws.BytesArg
import Derived.Lib.SlBytesConst
namespace Go.Proofs.Ytfldgoggaadohaa
open Go.RowKit

/-- What Put(n, x) adds. -/
def putI (n x : Int) : List UInt8 := if 1 ≤ n ∧ n ≤ 8 then putB n.toNat x.toNat else []
theorem putI_length (n x : Int) : (putI n x).length ≤ 8 := by
  unfold putI
  split
  · rw [putB_length]; omega
  · simp

theorem put_any (B g : Nat) (v : Value) (bs : List UInt8) (n x : Int) (w : World) (h : OutAt w B g v bs) (hx0 : 0 ≤ x) (hx : x < 18446744073709551616) (hl : bs.length ≤ 140737488355320) :
    Calls Try.prog 21 #[.pointer (some ⟨g, 0, none⟩), .int .i64 n, .int .u64 x] w (OutStep w B g v (bs ++ putI n x)) := by
  by_cases hn : 1 ≤ n ∧ n ≤ 8
  · obtain ⟨m, rfl⟩ : ∃ m : Nat, n = (m : Int) := ⟨n.toNat, by omega⟩
    obtain ⟨y, rfl⟩ : ∃ y : Nat, x = (y : Int) := ⟨x.toNat, by omega⟩
    have e : putI (m : Int) (y : Int) = putB m y := by rw [putI, if_pos hn]; simp
    rw [e]
    exact put_yes B g v bs m y w h (by omega) (by omega) (by omega) (by omega)
  · have e : putI n x = [] := by rw [putI, if_neg hn]
    rw [e, List.append_nil]
    exact put_no B g v bs n x w h (by omega)

/-- The text that bytes make. -/
def strOf (l : List UInt8) : ByteArray := ⟨l.toArray⟩
theorem strOf_toList (l : List UInt8) : (strOf l).data.toList = l := rfl
theorem strOf_list (l : List UInt8) : (strOf l).toList = l := Go.ByteArray.toList_mk l
theorem strOf_inj {l m : List UInt8} (h : strOf l = strOf m) : l = m := by
  have := congrArg (fun s => s.data.toList) h
  simpa [strOf] using this

theorem run_str (v : Value) (bs : List UInt8) (lo hi : Nat) (w : World) (h : SlIs w lo hi v bs) : (convert 22 9 v).run Try.prog w = .ok (.string (strOf bs)) w := by
  obtain ⟨A, c, rfl, _, _, hr⟩ := h
  cases A with
  | none =>
    have hb : bs = [] := by
      rcases Nat.eq_zero_or_pos bs.length with h0 | h0
      · exact List.eq_nil_of_length_eq_zero h0
      · obtain ⟨ad, h, _⟩ := hr h0
        cases h
    subst hb
    exact run_convert_bytes_nil w 22 5 Try.underlying22 Try.underlying5 _ c 9 Try.underlying9
  | some ad =>
    refine run_convert_bytes_back w 22 9 5 ad c bs Try.underlying22 Try.underlying5 Try.underlying9 ?_
    intro j hj
    obtain ⟨ad', h, _, _, hc⟩ := hr (by omega)
    injection h with h
    subst h
    exact hc j _ (b8s_get hj)

theorem SlIs.alloc {w : World} {lo hi : Nat} {v : Value} {bs : List UInt8} {o : Obj} (h : SlIs w lo hi v bs) (hh : hi ≤ w.heap.size) : SlIs (w.alloc o) lo hi v bs := by
  obtain ⟨A, c, e, h1, h2, h3⟩ := h
  exact ⟨A, c, e, h1, h2, h3.keep fun p _ hp => World.cell?_alloc_lt w o p (by omega)⟩
theorem SlIs.only {a b : World} {S : Nat → Prop} {lo hi : Nat} {v : Value} {bs : List UInt8} (h : SlIs a lo hi v bs) (k : Only S a b) (hh : hi ≤ a.heap.size) (hn : ∀ i, lo ≤ i → i < hi → ¬ S i) : SlIs b lo hi v bs := by
  obtain ⟨A, c, e, h1, h2, h3⟩ := h
  exact ⟨A, c, e, h1, h2, h3.only k hh hn⟩

/-- A row of bytes that was just laid, whatever its mark. -/
theorem lit_SlIs (w : World) (t : TypeId) (fr : Nat × Nat) (bs : List UInt8) (n : Nat) (hn : n = bs.length) (hm : n ≤ maxLen) :
    SlIs (w.alloc (.cells (b8s bs).toArray t fr)) w.heap.size (w.heap.size + 1) (.slice (some ⟨w.heap.size, 0, none⟩) n n) bs := by
  subst hn
  refine ⟨_, _, rfl, Nat.le_refl _, hm, fun _ => ⟨_, rfl, Nat.le_refl _, Nat.lt_succ_self _, ?_⟩⟩
  have h := World.news_of_block (B := w.heap.size) (heap_alloc_new w (.cells (b8s bs).toArray t fr))
  simpa using h
end Go.Proofs.Ytfldgoggaadohaa
