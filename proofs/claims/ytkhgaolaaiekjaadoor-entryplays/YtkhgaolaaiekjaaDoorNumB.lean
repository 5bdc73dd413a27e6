/-
  Package num: Bytes, Of, Left, Err, Raw of an Out: what each call answers and what it does to memory.
-/
import Derived.Test.YtkhgaolaaiekjaaDoorFault
namespace Go.Proofs.YtkhgaolaaiekjaaDoor
open Go.RowKit

/-- An Out at block g, its list v, its bytes; all in blocks from B on. -/
structure OutAt (w : World) (B g : Nat) (v : Value) (bs : List UInt8) : Prop where
  has : Has w g 61 #[v]
  own : w.ownsRow B 5 1 v bs.length (b8s bs)
  low : B ≤ g

/-- The blocks that an Out's calls may write. -/
def Foot (g : Nat) (v : Value) (i : Nat) : Prop := i = g ∨ v.ownBlock = some i

/-- What a call that adds to an Out leaves. -/
def OutStep (w : World) (B g : Nat) (v : Value) (bs : List UInt8) (e : Ending) (w' : World) : Prop :=
  ∃ v', e = .returned (.tuple #[]) ∧ OutAt w' B g v' bs ∧ Only (Foot g v) w w' ∧ ∀ i, v'.ownBlock = some i → v.ownBlock = some i ∨ w.heap.size ≤ i

/-- An In at block g: the bytes that are left (in blocks from lo on, below g), the error. -/
def InAt (w : World) (lo g : Nat) (bs : List UInt8) (err : Int) : Prop :=
  ∃ A c, Has w g 83 #[.slice A bs.length c, .int .i64 err] ∧ bs.length ≤ c ∧ c ≤ maxLen ∧ Rd w lo g A bs ∧ lo ≤ g

theorem InAt.only {a b : World} {S : Nat → Prop} {lo g : Nat} {bs : List UInt8} {err : Int} (h : InAt a lo g bs err) (k : Only S a b) (hn : ∀ i, lo ≤ i → i ≤ g → ¬ S i) : InAt b lo g bs err := by
  obtain ⟨A, c, h1, h2, h3, h4, h5⟩ := h
  exact ⟨A, c, h1.only k (hn _ h5 (Nat.le_refl _)), h2, h3, h4.only k (Nat.le_of_lt h1.lt) (fun i hi hj => hn i hi (Nat.le_of_lt hj)), h5⟩
theorem InAt.lt {a : World} {lo g : Nat} {bs : List UInt8} {err : Int} (h : InAt a lo g bs err) : lo ≤ g ∧ g < a.heap.size := by
  obtain ⟨A, c, h1, h2, h3, h4, h5⟩ := h
  exact ⟨h5, h1.lt⟩
theorem OutAt.only {a b : World} {S : Nat → Prop} {B g : Nat} {v : Value} {bs : List UInt8} (h : OutAt a B g v bs) (k : Only S a b) (hn : ∀ i, Foot g v i → ¬ S i) : OutAt b B g v bs :=
  ⟨h.has.only k (hn _ (.inl rfl)), owns_only h.own k (fun i hi => hn i (.inr hi)), h.low⟩
theorem OutAt.foot_lt {a : World} {B g : Nat} {v : Value} {bs : List UInt8} (h : OutAt a B g v bs) {i : Nat} (hi : Foot g v i) : B ≤ i ∧ i < a.heap.size := by
  rcases hi with rfl | hi
  · exact ⟨h.low, h.has.lt⟩
  · exact h.own.lt i hi

theorem width_yes (n : Int) (w : World) (h1 : 1 ≤ n) (h2 : n ≤ 8) : Calls Tryd.prog 49 #[.int .i64 n] w fun e w' => e = .returned (.bool true) ∧ w = w' := by
  go_enter Tryd.func49, Tryd.ntmps49
  go_wp2
  go_ret
  exact ⟨rfl, rfl⟩
theorem width_no (n : Int) (w : World) (h : n < 1 ∨ 8 < n) : Calls Tryd.prog 49 #[.int .i64 n] w fun e w' => e = .returned (.bool false) ∧ w = w' := by
  by_cases h1 : n < 1
  · go_enter Tryd.func49, Tryd.ntmps49
    go_wp2
    go_ret
    exact ⟨rfl, rfl⟩
  · have h2 : 8 < n := by omega
    have h3 : 1 ≤ n := by omega
    have h4 : decide (n ≤ 8) = false := decide_eq_false (by omega)
    go_enter Tryd.func49, Tryd.ntmps49
    go_wp2
    go_ret
    exact ⟨rfl, rfl⟩
set_option maxHeartbeats 400000 in
theorem left_any (lo g : Nat) (bs : List UInt8) (err : Int) (w : World) (h : InAt w lo g bs err) :
    Calls Tryd.prog 38 #[.pointer (some ⟨g, 0, none⟩)] w fun e w' => e = .returned (.int .i64 (bs.length : Int)) ∧ w = w' := by
  obtain ⟨A, c, h1, h2, h3, h4, h5⟩ := h
  have hc := h1.cell 0
  simp at hc
  clear h1
  go_enter Tryd.func38, Tryd.ntmps38
  go_wp2
  go_ret
  exact ⟨rfl, rfl⟩

set_option maxHeartbeats 400000 in
theorem bytes_any (B g : Nat) (v : Value) (bs : List UInt8) (w : World) (h : OutAt w B g v bs) (hl : bs.length ≤ 140737488355328) :
    Calls Tryd.prog 36 #[.pointer (some ⟨g, 0, none⟩)] w (Cloned w bs) := by
  have hc := h.has.cell 0
  simp at hc
  have H := Lib.hid (owns_SlIs h.own)
  clear h
  obtain ⟨A, c, rfl⟩ : ∃ A c, v = .slice A bs.length c := by
    obtain ⟨A, c, h, _⟩ := H.out
    exact ⟨A, c, h⟩
  go_enter Tryd.func36, Tryd.ntmps36
  go_wp2_with fail
  refine (clone_any _ bs _ _ w H.out (Nat.le_refl _) hl).mono ?_
  rintro e w' ⟨v, rfl, h1, h2⟩
  have R : Hid (Cloned w bs (.returned v) w') := ⟨_, rfl, h1, h2⟩
  clear h1 h2 hc
  go_wp2
  go_ret
  exact R.out

def OfStep (w : World) (bs : List UInt8) (e : Ending) (w' : World) : Prop :=
  ∃ g, e = .returned (.pointer (some ⟨g, 0, none⟩)) ∧ InAt w' w.heap.size g bs 0 ∧ Below w.heap.size w w'

set_option maxHeartbeats 400000 in
theorem of_any (v : Value) (bs : List UInt8) (lo hi : Nat) (w : World) (hv : SlIs w lo hi v bs) (hhi : hi ≤ w.heap.size) (hl : bs.length ≤ 140737488355328) :
    Calls Tryd.prog 37 #[v] w (OfStep w bs) := by
  have H := Lib.hid (clone_any v bs lo hi w hv hhi hl)
  clear hv
  go_enter Tryd.func37, Tryd.ntmps37
  go_wp2_with fail
  refine H.out.mono ?_
  rintro e w1 ⟨v1, rfl, h1, h2⟩
  clear H
  obtain ⟨A, c, rfl, h3, h4, h5⟩ := owns_slice h1
  have R : Hid (OfStep w bs (.returned (.pointer (some ⟨w1.heap.size, 0, none⟩))) (w1.alloc (.cells #[.slice A bs.length c, .int .i64 0] 83))) :=
    ⟨_, rfl, ⟨A, c, Has.new _ _ _, h3, h4, h5.keep (fun p _ hp => World.cell?_alloc_lt w1 _ _ hp), h2.size⟩, h2.alloc h2.size _⟩
  clear h1 h2 h3 h4 h5
  go_wp2
  go_ret
  exact R.out
end Go.Proofs.YtkhgaolaaiekjaaDoor
