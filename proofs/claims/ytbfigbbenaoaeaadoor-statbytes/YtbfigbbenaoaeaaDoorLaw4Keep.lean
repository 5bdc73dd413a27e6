/-
  Layer 4's statements: what a walk keeps of a record that came in and of its bytes.
-/
import Derived.Test.YtbfigbbenaoaeaaDoorLaw4Known
namespace Go.Proofs.YtbfigbbenaoaeaaDoor
open Go.RowKit
set_option maxRecDepth 100000

theorem isFew_few {s : S11} (h : s.isFew) : s.Few ∧ s.size ≤ 900 := by
  obtain ⟨h1, h2, h3, h4⟩ := h
  refine ⟨⟨by omega, by omega, by omega, by omega⟩, ?_⟩
  unfold S11.size
  omega
theorem size_ge (s : S11) : 49 ≤ s.size := by unfold S11.size; omega
/-- The record's block. -/
structure KR (w W : World) (s : S11) : Prop where
  low : Below w.heap.size w W
  row : Has W w.heap.size 28 s.cells
theorem KR.new (w : World) (s : S11) : KR w (w.alloc (.cells s.cells 28)) s := ⟨(Below.refl w.heap.size w).alloc (Nat.le_refl _) _, Has.new _ _ _⟩
theorem KR.next {w W W2 : World} {s : S11} (k : KR w W s) (b : Below W.heap.size W W2) : KR w W2 s :=
  ⟨k.low.trans (b.mono k.low.size), k.row.only (Only.of_below b) (Nat.not_le_of_lt k.row.lt)⟩
theorem KR.tabs {w W : World} {s : S11} (k : KR w W s) (hT : Tabs w) : Tabs W := hT.below k.low
theorem KR.size {w W : World} {s : S11} (k : KR w W s) : w.heap.size + 1 ≤ W.heap.size := k.row.lt
/-- The record's block, and its bytes at some place. -/
structure KX (w W : World) (s : S11) (A : Option Addr) (c hi : Nat) : Prop where
  knd : KR w W s
  src : SlIs W (w.heap.size + 1) hi (.slice A s.size c) (recB s)
  top : hi ≤ W.heap.size
theorem KX.next {w W W2 : World} {s : S11} {A : Option Addr} {c hi : Nat} (k : KX w W s A c hi) (b : Below W.heap.size W W2) : KX w W2 s A c hi :=
  ⟨k.1.next b, k.src.only (Only.of_below b) k.top (fun i _ hi h => by have := k.top; omega), Nat.le_trans k.top b.size⟩

/-- Encode of a record that came in. -/
def EncAns (w : World) (s : S11) (e : Ending) (w1 : World) : Prop :=
  (wrongL s.texts = 0 ∧ ∃ A c, e = .returned (.tuple #[.slice A s.size c, .int .i64 0]) ∧ s.size ≤ c ∧ c ≤ maxLen ∧ KX w w1 s A c w1.heap.size) ∨
  (wrongL s.texts ≠ 0 ∧ e = .returned (.tuple #[.slice none 0 0, .int .i64 (wrongL s.texts)]) ∧ KR w w1 s)
theorem encode_kept (s : S11) (w W : World) (k : KR w W s) (hn : s.Num) (hs : s.Few) (hT : Tabs w) : Calls Tryd.prog 8 #[s.val] W (EncAns w s) := by
  refine (encode_any s W hn hs (k.tabs hT)).mono ?_
  rintro e w1 (⟨h0, v1, he, a1, b1⟩ | ⟨h, he, b1⟩)
  · obtain ⟨A, c, hv, hc1, hc2, hr⟩ := owns_slice a1
    rw [recB_length h0] at hv hc1
    refine .inl ⟨h0, A, c, by rw [he, hv], hc1, hc2, k.next b1, ⟨A, c, by rw [recB_length h0], by rw [recB_length h0]; exact hc1, hc2, ?_⟩, Nat.le_refl _⟩
    exact hr.wide k.size (Nat.le_refl _)
  · exact .inr ⟨h, he, k.next b1⟩
theorem dec_item {s : S11} (more : List UInt8) (hn : s.Num) (h0 : wrongL s.texts = 0) : decAns (recB s ++ more) = (s, (s.size : Int), 0) := by
  have h := firstOf_item more hn h0
  unfold decAns
  rw [h]
  simp only [List.length_append, recB_length h0, Prod.mk.injEq, true_and, and_true]
  omega
theorem dec_cut {s : S11} (n : Nat) (h0 : wrongL s.texts = 0) (h : n < s.size) : decAns ((recB s).take n) = (S11.zero, 0, 4) := by
  have h := firstOf_cut n h0 (by rw [recB_length h0]; exact h)
  unfold decAns
  rw [h]
end Go.Proofs.YtbfigbbenaoaeaaDoor
