/-
  The second reading of layer 3: a qid's bytes; the statement's own turning of a qid into the document's.
-/
import Derived.Test.YtepiifbleoimkaaGreatDoorPackNum
import Derived.Test.YtepiifbleoimkaaGreatDoorRefPut
import Derived.Deep.RegionHeld3
import Derived.Deep.DeepCutAuto
namespace Go.Proofs.YtepiifbleoimkaaGreatDoor
open Go.RowKit
set_option maxRecDepth 100000

theorem Tryz.refQidSize : (Tryz.prog.info? 39).map (·.size) = some 3 := by kernel_rfl
set_option maxHeartbeats 400000 in
theorem law3of_any (q : Q3) (w : World) : Calls Tryz.prog 25 #[q.val] w fun e w' => e = .returned q.val ∧ Below w.heap.size w w' := by
  obtain ⟨qt, qv, qp⟩ := q
  unfold Q3.val
  go_enter Tryz.func25, Tryz.ntmps25
  go_wp2
  refine bodyPost_ret (results_cell_row rfl _ _ (w.heap.size + 1) 39 #[.int .u8 (qt : Int), .int .u32 (qv : Int), .int .u64 (qp : Int)] (0, 0) _ rfl ?_ Tryz.underlying39 rfl Tryz.refQidSize) rfl ?_
  · have h := heap_alloc_new (w.alloc (.cells #[.int .u8 (qt : Int), .int .u32 (qv : Int), .int .u64 (qp : Int)] 30)) (.cells #[.int .u8 (qt : Int), .int .u32 (qv : Int), .int .u64 (qp : Int)] 39)
    simpa using h
  · exact ⟨rfl, ((Below.refl _ w).alloc (Nat.le_refl _) _).alloc (by simp) _⟩
set_option maxHeartbeats 1000000 in
theorem refqid_any (q : Q3) (w : World) (hq : q.Ok) : Calls Tryz.prog 74 #[q.val] w (NewBytes w (qidB q)) := by
  obtain ⟨qt, qv, qp⟩ := q
  obtain ⟨h1, h2, h3⟩ := hq
  simp only at h1 h2 h3
  unfold Q3.val
  have hw1 : IntKind.u64.wrap (qt : Int) = (qt : Int) := IntWalk.u64_in _ (by omega)
  have hw2 : IntKind.u64.wrap (qv : Int) = (qv : Int) := IntWalk.u64_in _ (by omega)
  have l1 := putB_length 1 qt
  have l2 := putB_length 4 qv
  have l3 := putB_length 8 qp
  obtain ⟨i0, hi0, hz0, hz1, hz2⟩ := info_parts Tryz.info8
  have e1 : putI 1 (qt : Int) = putB 1 qt := putI_of 1 qt (by omega) (by omega)
  have e4 : putI 4 (qv : Int) = putB 4 qv := putI_of 4 qv (by omega) (by omega)
  have e8 : putI 8 (qp : Int) = putB 8 qp := putI_of 8 qp (by omega) (by omega)
  have N1 : Hid (∀ W, Calls Tryz.prog 72 #[.int .i64 1, .int .u64 (qt : Int)] W (NewBytes W (putB 1 qt))) := fun W => by
    rw [← e1]
    exact refnum_any 1 (qt : Int) W (by omega)
  have N4 : Hid (∀ W, Calls Tryz.prog 72 #[.int .i64 4, .int .u64 (qv : Int)] W (NewBytes W (putB 4 qv))) := fun W => by
    rw [← e4]
    exact refnum_any 4 (qv : Int) W (by omega)
  have N8 : Hid (∀ W, Calls Tryz.prog 72 #[.int .i64 8, .int .u64 (qp : Int)] W (NewBytes W (putB 8 qp))) := fun W => by
    rw [← e8]
    exact refnum_any 8 (qp : Int) W (by omega)
  obtain ⟨W0, hW0⟩ : ∃ W0, W0 = w.alloc (.cells #[.int .u8 (qt : Int), .int .u32 (qv : Int), .int .u64 (qp : Int)] 39) := ⟨_, rfl⟩
  have B0 : Hid (Has W0 w.heap.size 39 #[.int .u8 (qt : Int), .int .u32 (qv : Int), .int .u64 (qp : Int)]) := by
    rw [hW0]
    exact Has.new _ _ _
  have K0 : Hid (Below w.heap.size w W0) := by
    rw [hW0]
    exact (Below.refl _ w).alloc (Nat.le_refl _) _
  have s0 := B0.out.cell 0
  have s1 := B0.out.cell 1
  simp at s0 s1
  have hz : w.heap.size < W0.heap.size := B0.out.lt
  have HW := Lib.hid hW0
  clear e1 e4 e8 hW0
  go_enter Tryz.func74, Tryz.ntmps74
  go_wp2_with fail
  rw [← HW.out]
  go_cut [3] (fun v3 wx => Hid (wx.ownsRow w.heap.size 5 1 v3 (putB 1 qt ++ putB 4 qv).length (b8s (putB 1 qt ++ putB 4 qv)) ∧ Below w.heap.size w wx ∧ Has wx w.heap.size 39 #[.int .u8 (qt : Int), .int .u32 (qv : Int), .int .u64 (qp : Int)]))
  case first =>
    go_region_held3 (fun w' => w'.cell? ⟨w.heap.size, 0, none⟩ = some (.int .u8 (qt : Int)) ∧ w'.cell? ⟨w.heap.size, 1, none⟩ = some (.int .u32 (qv : Int))) (first | exact ⟨s0, s1⟩ | go_keep)
      (first
        | (go_at_call 72; (with_reducible show Calls _ _ #[.int .i64 4, _] _ _); refine (N4.out _).mono ?_; rintro e w2 ⟨v2, rfl, a2, b2⟩; have B2 := Lib.hid (B1.out.only (Only.of_below b2) (Nat.not_le_of_lt B1.out.lt)); have K2 := Lib.hid (K1.out.trans (b2.mono K1.out.size)); have s0 := B2.out.cell 0; have s1 := B2.out.cell 1; simp at s0 s1; have A2 := Lib.hid (owns_only A1.out (Only.of_below b2) (fun i h => Nat.not_le_of_lt (A1.out.lt i h).2)); have C2 := Lib.hid (owns_SlIs a2); clear a2 b2)
        | (go_at_call 72; (with_reducible show Calls _ _ #[.int .i64 1, _] _ _); refine (N1.out _).mono ?_; rintro e w1 ⟨v1, rfl, a1, b1⟩; have B1 : Hid (Has w1 w.heap.size 39 #[.int .u8 (qt : Int), .int .u32 (qv : Int), .int .u64 (qp : Int)]) := B0.out.drew.only (Only.of_below b1) (Nat.not_le_of_lt hz); have K1 : Hid (Below w.heap.size w w1) := K0.out.drew.trans (b1.mono (Nat.le_of_lt hz)); have s0 := B1.out.cell 0; have s1 := B1.out.cell 1; simp at s0 s1; have A1 : Hid (w1.ownsRow w.heap.size 5 1 v1 (putB 1 qt).length (b8s (putB 1 qt))) := owns_base a1 (Nat.le_of_lt hz); clear a1 b1)
        | (refine step_append_bytes _ (by rfl) _ _ _ (by rfl) w.heap.size 5 i0 Tryz.underlying22 hi0 hz0 hz1 hz2 v1 (putB 1 qt) (putB 4 qv) (by rfl) (by exact A2.out) _ _ v2 (by rfl) (by exact C2.out) (by rw [List.length_append, l1, l2]; omega) (by exact K2.out.size) ?_; intro v3 w3 a3 b3 _; have B3 := Lib.hid (B2.out.only (Only.of_grown b3) (owns_ne A2.out B2.out (by decide))); have s0 := B3.out.cell 0; have s1 := B3.out.cell 1; simp at s0 s1; have A3 := Lib.hid a3; have K3 := Lib.hid (K2.out.grown b3 K2.out.size (fun i hi => (A2.out.lt i hi).1)); clear a3 b3)
        | fail)
    go_wp2_with fail
    go_meet
    exact ⟨A3.out, K3.out, B3.out⟩
  case rest =>
    obtain ⟨a3, k3, b3⟩ := hcut.out
    have s2 := b3.cell 2
    simp at s2
    have A3 := Lib.hid a3
    have K3 := Lib.hid k3
    clear hcut a3 k3 b3 s0 s1 N1 N4 B0 K0 HW
    go_wp2_with fail
    refine (N8.out wc).mono ?_
    rintro e w4 ⟨v4, rfl, a4, b4⟩
    have A4 := Lib.hid (owns_only A3.out (Only.of_below b4) (fun i h => Nat.not_le_of_lt (A3.out.lt i h).2))
    have K4 := Lib.hid (K3.out.trans (b4.mono K3.out.size))
    have C4 := Lib.hid (owns_SlIs a4)
    clear a4 b4 A3 K3 N8 s2
    go_wp2_with (at_builtin; go_must (refine wpList_append_bytes _ rfl (.tmp 13) (.tmp 16) 22 rfl w.heap.size 5 i0 Tryz.underlying22 hi0 hz0 hz1 hz2 u3 (putB 1 qt ++ putB 4 qv) (putB 8 qp) rfl A4.out _ _ v4 rfl C4.out (by rw [List.length_append, List.length_append, l1, l2, l3]; omega) K4.out.size ?_))
    intro v5 w5 a5 b5 _
    have R : Hid (NewBytes w (qidB ⟨qt, qv, qp⟩) (.returned v5) w5) := by
      refine ⟨v5, rfl, ?_, K4.out.grown b5 K4.out.size (fun i hi => (A4.out.lt i hi).1)⟩
      rw [show qidB ⟨qt, qv, qp⟩ = putB 1 qt ++ putB 4 qv ++ putB 8 qp from by simp [qidB]]
      exact a5
    clear a5 b5 A4 K4 C4
    go_wp2
    go_ret
    exact R.out
end Go.Proofs.YtepiifbleoimkaaGreatDoor
