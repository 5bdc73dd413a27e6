/-
  Package num: the function that Raw hands to guard.
-/
import Derived.Test.YtkhgaolaaiekjaaDoorNumD
namespace Go.Proofs.YtkhgaolaaiekjaaDoor
open Go.RowKit

set_option maxHeartbeats 400000 in
theorem raw1_arg (nb ib vb : Nat) (n : Int) (w : World) (hn : Has w nb 3 #[.int .i64 n]) (h : n < 0) :
    Calls Tryd.prog 58 #[.pointer (some ⟨nb, 0, none⟩), .pointer (some ⟨ib, 0, none⟩), .pointer (some ⟨vb, 0, none⟩)] w fun e w' => e = .panicked [{ v := .iface 26 (.int .i64 1), recovered := false }] ∧ w = w' := by
  have hc := hn.cell 0
  simp at hc
  have hd : decide (0 ≤ n) = false := decide_eq_false (by omega)
  clear hn
  go_enter Tryd.func58, Tryd.ntmps58
  go_wp2_with fail
  refine (must_no 1 w).mono ?_
  rintro e w' ⟨rfl, rfl⟩
  go_wp2
  exact ⟨rfl, rfl, rfl⟩

set_option maxHeartbeats 400000 in
theorem raw1_short (lo g nb ib vb : Nat) (n : Int) (bs : List UInt8) (w : World) (hn : Has w nb 3 #[.int .i64 n]) (hi : Has w ib 65 #[.pointer (some ⟨g, 0, none⟩)]) (hI : InAt w lo g bs 0)
    (h1 : 0 ≤ n) (h3 : (bs.length : Int) < n) :
    Calls Tryd.prog 58 #[.pointer (some ⟨nb, 0, none⟩), .pointer (some ⟨ib, 0, none⟩), .pointer (some ⟨vb, 0, none⟩)] w fun e w' => e = .panicked [{ v := .iface 26 (.int .i64 4), recovered := false }] ∧ w = w' := by
  have hc := hn.cell 0
  have hc2 := hi.cell 0
  simp at hc hc2
  have H := Lib.hid hI
  have hd : decide (0 ≤ n) = true := decide_eq_true (by omega)
  clear hn hi hI
  go_enter Tryd.func58, Tryd.ntmps58
  go_wp2_with fail
  refine (must_yes 1 w).mono ?_
  rintro e w' ⟨rfl, rfl⟩
  go_wp2_with fail
  refine (next_no lo g bs n w H.out h3).mono ?_
  rintro e w' ⟨rfl, rfl⟩
  go_wp2
  exact ⟨rfl, rfl, rfl⟩

set_option maxHeartbeats 1000000 in
theorem raw1_ok (lo g nb ib vb n : Nat) (bs : List UInt8) (w : World) (hn : Has w nb 3 #[.int .i64 (n : Int)]) (hi : Has w ib 65 #[.pointer (some ⟨g, 0, none⟩)]) (hv : Has w vb 25 #[.slice none 0 0]) (hI : InAt w lo g bs 0)
    (hgv : g < vb) (h3 : n ≤ bs.length) (hb : bs.length ≤ 140737488355328) :
    Calls Tryd.prog 58 #[.pointer (some ⟨nb, 0, none⟩), .pointer (some ⟨ib, 0, none⟩), .pointer (some ⟨vb, 0, none⟩)] w
      (TookStep w lo g vb 25 (fun w' u => w'.ownsRow w.heap.size 5 1 u (bs.take n).length (b8s (bs.take n))) (bs.drop n)) := by
  have hc := hn.cell 0
  have hc2 := hi.cell 0
  simp at hc hc2
  have H := Lib.hid hI
  have HV := Lib.hid hv
  have hd : decide (0 ≤ (n : Int)) = true := decide_eq_true (by omega)
  clear hn hi hI hv
  go_enter Tryd.func58, Tryd.ntmps58
  go_wp2_with fail
  refine (must_yes 1 w).mono ?_
  rintro e w' ⟨rfl, rfl⟩
  go_wp2_with fail
  refine (next_yes lo g bs n w H.out h3).mono ?_
  rintro e w1 ⟨v, rfl, hs, hI1, hO⟩
  have hsz := hO.size
  have hg1 := hI1.lt
  have H1 := Lib.hid (clone_any v (bs.take n) lo g w1 hs (by omega) (by rw [List.length_take]; omega))
  have H2 := Lib.hid hI1
  have H3 := Lib.hid hO
  clear hs hI1 hO hc hc2
  go_wp2_with fail
  refine H1.out.mono ?_
  rintro e w2 ⟨u, rfl, k1, k2⟩
  have k3 := (H3.out.trans (Only.of_below k2) (fun i hi h => by omega))
  have hv2 := HV.out.only k3 (by omega)
  have hvl := HV.out.lt
  have R : Hid (TookStep w lo g vb 25 (fun w' u => w'.ownsRow w.heap.size 5 1 u (bs.take n).length (b8s (bs.take n))) (bs.drop n) (.returned (.tuple #[])) (w2.setCell ⟨vb, 0, none⟩ u)) := by
    have k4 : Only (fun i => i = vb) w2 (w2.setCell ⟨vb, 0, none⟩ u) := (Only.refl (fun i => i = vb) w2).setCell (p := ⟨vb, 0, none⟩) (fun _ => rfl) _
    refine ⟨u, rfl, hv2.set 0 u, ?_, ?_, ?_⟩
    · refine owns_only (owns_base k1 hsz) k4 ?_
      rintro i hi rfl
      have := (k1.lt _ hi).1
      omega
    · exact (H2.out.only (Only.of_below k2) (fun i _ hi h => by omega)).only k4 (fun i _ hi h => by omega)
    · exact (k3.mono fun i _ h => .inl h).trans k4 (fun i _ h => .inr h)
  have hc3 := hv2.cell 0
  have hf3 := hv2.frozen 0
  simp at hc3
  obtain ⟨A, c, rfl, _⟩ := owns_slice k1
  clear k1 k2 k3 hv2 H1 H2 H3 HV H
  go_wp2
  go_end0
  have r := R.out
  rw [List.length_take, Nat.min_eq_left h3] at r ⊢
  exact r
end Go.Proofs.YtkhgaolaaiekjaaDoor
