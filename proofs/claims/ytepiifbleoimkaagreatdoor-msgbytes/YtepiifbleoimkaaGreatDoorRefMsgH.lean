/-
  The second reading's texts: are the texts that a Type names the same?
-/
import Derived.Test.YtepiifbleoimkaaGreatDoorRefMsgG
namespace Go.Proofs.YtepiifbleoimkaaGreatDoor
open Go.RowKit
set_option maxRecDepth 100000

theorem str_ne {x y : List UInt8} (h : x ≠ y) : ((strOf x).toList = (strOf y).toList) = False := eq_false (fun e => h (by rw [strOf_list, strOf_list] at e; exact e))
set_option maxHeartbeats 1000000 in
theorem rtexts_100 (ca cb : Array Value) (w : World) (c0 : ca[0]? = some (.int .u8 100)) (x3 y3 : List UInt8) (a3 : ca[3]? = some (.string (strOf x3))) (b3 : cb[3]? = some (.string (strOf y3))) :
    Calls Tryz.prog 24 #[.agg ca, .agg cb] w (Tells w (x3 = y3)) := by
  obtain ⟨W, hW⟩ : ∃ W, W = (w.alloc (.cells ca 43)).alloc (.cells cb 43) := ⟨_, rfl⟩
  have nA : Has W w.heap.size 43 ca := by rw [hW]; exact (Has.new w _ _).alloc _
  have nB : Has W (w.heap.size + 1) 43 cb := by
    rw [hW]
    have := Has.new (w.alloc (.cells ca 43)) 43 cb
    simpa using this
  have HB : Hid (Below w.heap.size w ((w.alloc (.cells ca 43)).alloc (.cells cb 43))) := Lib.hid (((Below.refl _ _).alloc (Nat.le_refl _) _).alloc (by simp) _)
  have d0 := (nA.cell 0).trans c0
  have e3 := (nA.cell 3).trans a3
  have f3 := (nB.cell 3).trans b3
  rw [hW] at d0 e3 f3
  clear nA nB hW c0 a3 b3
  go_enter Tryz.func24, Tryz.ntmps24
  go_wp2
  go_ret
  exact ⟨⟨_, rfl, by simp [strOf_list]⟩, HB.out⟩
set_option maxHeartbeats 1000000 in
theorem rtexts_101 (ca cb : Array Value) (w : World) (c0 : ca[0]? = some (.int .u8 101)) (x3 y3 : List UInt8) (a3 : ca[3]? = some (.string (strOf x3))) (b3 : cb[3]? = some (.string (strOf y3))) :
    Calls Tryz.prog 24 #[.agg ca, .agg cb] w (Tells w (x3 = y3)) := by
  obtain ⟨W, hW⟩ : ∃ W, W = (w.alloc (.cells ca 43)).alloc (.cells cb 43) := ⟨_, rfl⟩
  have nA : Has W w.heap.size 43 ca := by rw [hW]; exact (Has.new w _ _).alloc _
  have nB : Has W (w.heap.size + 1) 43 cb := by
    rw [hW]
    have := Has.new (w.alloc (.cells ca 43)) 43 cb
    simpa using this
  have HB : Hid (Below w.heap.size w ((w.alloc (.cells ca 43)).alloc (.cells cb 43))) := Lib.hid (((Below.refl _ _).alloc (Nat.le_refl _) _).alloc (by simp) _)
  have d0 := (nA.cell 0).trans c0
  have e3 := (nA.cell 3).trans a3
  have f3 := (nB.cell 3).trans b3
  rw [hW] at d0 e3 f3
  clear nA nB hW c0 a3 b3
  go_enter Tryz.func24, Tryz.ntmps24
  go_wp2
  go_ret
  exact ⟨⟨_, rfl, by simp [strOf_list]⟩, HB.out⟩
set_option maxHeartbeats 1000000 in
theorem rtexts_102 (ca cb : Array Value) (w : World) (c0 : ca[0]? = some (.int .u8 102)) (x7 y7 : List UInt8) (a7 : ca[7]? = some (.string (strOf x7))) (b7 : cb[7]? = some (.string (strOf y7))) (x8 y8 : List UInt8) (a8 : ca[8]? = some (.string (strOf x8))) (b8 : cb[8]? = some (.string (strOf y8))) :
    Calls Tryz.prog 24 #[.agg ca, .agg cb] w (Tells w (x7 = y7 ∧ x8 = y8)) := by
  obtain ⟨W, hW⟩ : ∃ W, W = (w.alloc (.cells ca 43)).alloc (.cells cb 43) := ⟨_, rfl⟩
  have nA : Has W w.heap.size 43 ca := by rw [hW]; exact (Has.new w _ _).alloc _
  have nB : Has W (w.heap.size + 1) 43 cb := by
    rw [hW]
    have := Has.new (w.alloc (.cells ca 43)) 43 cb
    simpa using this
  have HB : Hid (Below w.heap.size w ((w.alloc (.cells ca 43)).alloc (.cells cb 43))) := Lib.hid (((Below.refl _ _).alloc (Nat.le_refl _) _).alloc (by simp) _)
  have d0 := (nA.cell 0).trans c0
  have e7 := (nA.cell 7).trans a7
  have f7 := (nB.cell 7).trans b7
  have e8 := (nA.cell 8).trans a8
  have f8 := (nB.cell 8).trans b8
  rw [hW] at d0 e7 f7 e8 f8
  clear nA nB hW c0 a7 b7 a8 b8
  by_cases h7 : x7 = y7
  · subst h7
    go_enter Tryz.func24, Tryz.ntmps24
    go_wp2
    go_ret
    exact ⟨⟨_, rfl, by simp [strOf_list]⟩, HB.out⟩
  · have g7 := str_ne h7
    go_enter Tryz.func24, Tryz.ntmps24
    go_wp2
    go_ret
    exact ⟨⟨_, rfl, by simp [h7]⟩, HB.out⟩
set_option maxHeartbeats 1000000 in
theorem rtexts_104 (ca cb : Array Value) (w : World) (c0 : ca[0]? = some (.int .u8 104)) (x7 y7 : List UInt8) (a7 : ca[7]? = some (.string (strOf x7))) (b7 : cb[7]? = some (.string (strOf y7))) (x8 y8 : List UInt8) (a8 : ca[8]? = some (.string (strOf x8))) (b8 : cb[8]? = some (.string (strOf y8))) :
    Calls Tryz.prog 24 #[.agg ca, .agg cb] w (Tells w (x7 = y7 ∧ x8 = y8)) := by
  obtain ⟨W, hW⟩ : ∃ W, W = (w.alloc (.cells ca 43)).alloc (.cells cb 43) := ⟨_, rfl⟩
  have nA : Has W w.heap.size 43 ca := by rw [hW]; exact (Has.new w _ _).alloc _
  have nB : Has W (w.heap.size + 1) 43 cb := by
    rw [hW]
    have := Has.new (w.alloc (.cells ca 43)) 43 cb
    simpa using this
  have HB : Hid (Below w.heap.size w ((w.alloc (.cells ca 43)).alloc (.cells cb 43))) := Lib.hid (((Below.refl _ _).alloc (Nat.le_refl _) _).alloc (by simp) _)
  have d0 := (nA.cell 0).trans c0
  have e7 := (nA.cell 7).trans a7
  have f7 := (nB.cell 7).trans b7
  have e8 := (nA.cell 8).trans a8
  have f8 := (nB.cell 8).trans b8
  rw [hW] at d0 e7 f7 e8 f8
  clear nA nB hW c0 a7 b7 a8 b8
  by_cases h7 : x7 = y7
  · subst h7
    go_enter Tryz.func24, Tryz.ntmps24
    go_wp2
    go_ret
    exact ⟨⟨_, rfl, by simp [strOf_list]⟩, HB.out⟩
  · have g7 := str_ne h7
    go_enter Tryz.func24, Tryz.ntmps24
    go_wp2
    go_ret
    exact ⟨⟨_, rfl, by simp [h7]⟩, HB.out⟩
set_option maxHeartbeats 1000000 in
theorem rtexts_107 (ca cb : Array Value) (w : World) (c0 : ca[0]? = some (.int .u8 107)) (x9 y9 : List UInt8) (a9 : ca[9]? = some (.string (strOf x9))) (b9 : cb[9]? = some (.string (strOf y9))) :
    Calls Tryz.prog 24 #[.agg ca, .agg cb] w (Tells w (x9 = y9)) := by
  obtain ⟨W, hW⟩ : ∃ W, W = (w.alloc (.cells ca 43)).alloc (.cells cb 43) := ⟨_, rfl⟩
  have nA : Has W w.heap.size 43 ca := by rw [hW]; exact (Has.new w _ _).alloc _
  have nB : Has W (w.heap.size + 1) 43 cb := by
    rw [hW]
    have := Has.new (w.alloc (.cells ca 43)) 43 cb
    simpa using this
  have HB : Hid (Below w.heap.size w ((w.alloc (.cells ca 43)).alloc (.cells cb 43))) := Lib.hid (((Below.refl _ _).alloc (Nat.le_refl _) _).alloc (by simp) _)
  have d0 := (nA.cell 0).trans c0
  have e9 := (nA.cell 9).trans a9
  have f9 := (nB.cell 9).trans b9
  rw [hW] at d0 e9 f9
  clear nA nB hW c0 a9 b9
  go_enter Tryz.func24, Tryz.ntmps24
  go_wp2
  go_ret
  exact ⟨⟨_, rfl, by simp [strOf_list]⟩, HB.out⟩
set_option maxHeartbeats 1000000 in
theorem rtexts_114 (ca cb : Array Value) (w : World) (c0 : ca[0]? = some (.int .u8 114)) (x19 y19 : List UInt8) (a19 : ca[19]? = some (.string (strOf x19))) (b19 : cb[19]? = some (.string (strOf y19))) :
    Calls Tryz.prog 24 #[.agg ca, .agg cb] w (Tells w (x19 = y19)) := by
  obtain ⟨W, hW⟩ : ∃ W, W = (w.alloc (.cells ca 43)).alloc (.cells cb 43) := ⟨_, rfl⟩
  have nA : Has W w.heap.size 43 ca := by rw [hW]; exact (Has.new w _ _).alloc _
  have nB : Has W (w.heap.size + 1) 43 cb := by
    rw [hW]
    have := Has.new (w.alloc (.cells ca 43)) 43 cb
    simpa using this
  have HB : Hid (Below w.heap.size w ((w.alloc (.cells ca 43)).alloc (.cells cb 43))) := Lib.hid (((Below.refl _ _).alloc (Nat.le_refl _) _).alloc (by simp) _)
  have d0 := (nA.cell 0).trans c0
  have e19 := (nA.cell 19).trans a19
  have f19 := (nB.cell 19).trans b19
  rw [hW] at d0 e19 f19
  clear nA nB hW c0 a19 b19
  go_enter Tryz.func24, Tryz.ntmps24
  go_wp2
  go_ret
  exact ⟨⟨_, rfl, by simp [strOf_list]⟩, HB.out⟩
set_option maxHeartbeats 1000000 in
theorem rtexts_125 (ca cb : Array Value) (w : World) (c0 : ca[0]? = some (.int .u8 125)) (x32 y32 : List UInt8) (a32 : ca[32]? = some (.string (strOf x32))) (b32 : cb[32]? = some (.string (strOf y32))) (x33 y33 : List UInt8) (a33 : ca[33]? = some (.string (strOf x33))) (b33 : cb[33]? = some (.string (strOf y33))) (x34 y34 : List UInt8) (a34 : ca[34]? = some (.string (strOf x34))) (b34 : cb[34]? = some (.string (strOf y34))) (x35 y35 : List UInt8) (a35 : ca[35]? = some (.string (strOf x35))) (b35 : cb[35]? = some (.string (strOf y35))) :
    Calls Tryz.prog 24 #[.agg ca, .agg cb] w (Tells w (x32 = y32 ∧ x33 = y33 ∧ x34 = y34 ∧ x35 = y35)) := by
  obtain ⟨W, hW⟩ : ∃ W, W = (w.alloc (.cells ca 43)).alloc (.cells cb 43) := ⟨_, rfl⟩
  have nA : Has W w.heap.size 43 ca := by rw [hW]; exact (Has.new w _ _).alloc _
  have nB : Has W (w.heap.size + 1) 43 cb := by
    rw [hW]
    have := Has.new (w.alloc (.cells ca 43)) 43 cb
    simpa using this
  have HB : Hid (Below w.heap.size w ((w.alloc (.cells ca 43)).alloc (.cells cb 43))) := Lib.hid (((Below.refl _ _).alloc (Nat.le_refl _) _).alloc (by simp) _)
  have d0 := (nA.cell 0).trans c0
  have e32 := (nA.cell 32).trans a32
  have f32 := (nB.cell 32).trans b32
  have e33 := (nA.cell 33).trans a33
  have f33 := (nB.cell 33).trans b33
  have e34 := (nA.cell 34).trans a34
  have f34 := (nB.cell 34).trans b34
  have e35 := (nA.cell 35).trans a35
  have f35 := (nB.cell 35).trans b35
  rw [hW] at d0 e32 f32 e33 f33 e34 f34 e35 f35
  clear nA nB hW c0 a32 b32 a33 b33 a34 b34 a35 b35
  by_cases h32 : x32 = y32
  · subst h32
    by_cases h33 : x33 = y33
    · subst h33
      by_cases h34 : x34 = y34
      · subst h34
        go_enter Tryz.func24, Tryz.ntmps24
        go_wp2
        go_ret
        exact ⟨⟨_, rfl, by simp [strOf_list]⟩, HB.out⟩
      · have g34 := str_ne h34
        go_enter Tryz.func24, Tryz.ntmps24
        go_wp2
        go_ret
        exact ⟨⟨_, rfl, by simp [h34]⟩, HB.out⟩
    · have g33 := str_ne h33
      go_enter Tryz.func24, Tryz.ntmps24
      go_wp2
      go_ret
      exact ⟨⟨_, rfl, by simp [h33]⟩, HB.out⟩
  · have g32 := str_ne h32
    go_enter Tryz.func24, Tryz.ntmps24
    go_wp2
    go_ret
    exact ⟨⟨_, rfl, by simp [h32]⟩, HB.out⟩
set_option maxHeartbeats 1000000 in
theorem rtexts_126 (ca cb : Array Value) (w : World) (c0 : ca[0]? = some (.int .u8 126)) (x32 y32 : List UInt8) (a32 : ca[32]? = some (.string (strOf x32))) (b32 : cb[32]? = some (.string (strOf y32))) (x33 y33 : List UInt8) (a33 : ca[33]? = some (.string (strOf x33))) (b33 : cb[33]? = some (.string (strOf y33))) (x34 y34 : List UInt8) (a34 : ca[34]? = some (.string (strOf x34))) (b34 : cb[34]? = some (.string (strOf y34))) (x35 y35 : List UInt8) (a35 : ca[35]? = some (.string (strOf x35))) (b35 : cb[35]? = some (.string (strOf y35))) :
    Calls Tryz.prog 24 #[.agg ca, .agg cb] w (Tells w (x32 = y32 ∧ x33 = y33 ∧ x34 = y34 ∧ x35 = y35)) := by
  obtain ⟨W, hW⟩ : ∃ W, W = (w.alloc (.cells ca 43)).alloc (.cells cb 43) := ⟨_, rfl⟩
  have nA : Has W w.heap.size 43 ca := by rw [hW]; exact (Has.new w _ _).alloc _
  have nB : Has W (w.heap.size + 1) 43 cb := by
    rw [hW]
    have := Has.new (w.alloc (.cells ca 43)) 43 cb
    simpa using this
  have HB : Hid (Below w.heap.size w ((w.alloc (.cells ca 43)).alloc (.cells cb 43))) := Lib.hid (((Below.refl _ _).alloc (Nat.le_refl _) _).alloc (by simp) _)
  have d0 := (nA.cell 0).trans c0
  have e32 := (nA.cell 32).trans a32
  have f32 := (nB.cell 32).trans b32
  have e33 := (nA.cell 33).trans a33
  have f33 := (nB.cell 33).trans b33
  have e34 := (nA.cell 34).trans a34
  have f34 := (nB.cell 34).trans b34
  have e35 := (nA.cell 35).trans a35
  have f35 := (nB.cell 35).trans b35
  rw [hW] at d0 e32 f32 e33 f33 e34 f34 e35 f35
  clear nA nB hW c0 a32 b32 a33 b33 a34 b34 a35 b35
  by_cases h32 : x32 = y32
  · subst h32
    by_cases h33 : x33 = y33
    · subst h33
      by_cases h34 : x34 = y34
      · subst h34
        go_enter Tryz.func24, Tryz.ntmps24
        go_wp2
        go_ret
        exact ⟨⟨_, rfl, by simp [strOf_list]⟩, HB.out⟩
      · have g34 := str_ne h34
        go_enter Tryz.func24, Tryz.ntmps24
        go_wp2
        go_ret
        exact ⟨⟨_, rfl, by simp [h34]⟩, HB.out⟩
    · have g33 := str_ne h33
      go_enter Tryz.func24, Tryz.ntmps24
      go_wp2
      go_ret
      exact ⟨⟨_, rfl, by simp [h33]⟩, HB.out⟩
  · have g32 := str_ne h32
    go_enter Tryz.func24, Tryz.ntmps24
    go_wp2
    go_ret
    exact ⟨⟨_, rfl, by simp [h32]⟩, HB.out⟩
set_option maxHeartbeats 1000000 in
theorem rtexts_111 (ca cb : Array Value) (w : World) (c0 : ca[0]? = some (.int .u8 111)) (A A2 : Option Addr) (n n2 k k2 : Nat) (a12 : ca[12]? = some (.slice A n k)) (b12 : cb[12]? = some (.slice A2 n2 k2)) :
    Calls Tryz.prog 24 #[.agg ca, .agg cb] w (Tells w (n = n2)) := by
  obtain ⟨W, hW⟩ : ∃ W, W = (w.alloc (.cells ca 43)).alloc (.cells cb 43) := ⟨_, rfl⟩
  have nA : Has W w.heap.size 43 ca := by rw [hW]; exact (Has.new w _ _).alloc _
  have nB : Has W (w.heap.size + 1) 43 cb := by
    rw [hW]
    have := Has.new (w.alloc (.cells ca 43)) 43 cb
    simpa using this
  have HB : Hid (Below w.heap.size w ((w.alloc (.cells ca 43)).alloc (.cells cb 43))) := Lib.hid (((Below.refl _ _).alloc (Nat.le_refl _) _).alloc (by simp) _)
  have d0 := (nA.cell 0).trans c0
  have e12 := (nA.cell 12).trans a12
  have f12 := (nB.cell 12).trans b12
  rw [hW] at d0 e12 f12
  clear nA nB hW c0 a12 b12
  go_enter Tryz.func24, Tryz.ntmps24
  go_wp2
  go_ret
  exact ⟨⟨_, rfl, by simp; omega⟩, HB.out⟩
set_option maxHeartbeats 1000000 in
theorem rtexts_no (ca cb : Array Value) (w : World) (t : Nat) (c0 : ca[0]? = some (.int .u8 (t : Int))) (n100 : t ≠ 100) (n101 : t ≠ 101) (n102 : t ≠ 102) (n104 : t ≠ 104) (n107 : t ≠ 107) (n110 : t ≠ 110) (n111 : t ≠ 111) (n114 : t ≠ 114) (n125 : t ≠ 125) (n126 : t ≠ 126) :
    Calls Tryz.prog 24 #[.agg ca, .agg cb] w (Tells w (True)) := by
  obtain ⟨W, hW⟩ : ∃ W, W = (w.alloc (.cells ca 43)).alloc (.cells cb 43) := ⟨_, rfl⟩
  have nA : Has W w.heap.size 43 ca := by rw [hW]; exact (Has.new w _ _).alloc _
  have nB : Has W (w.heap.size + 1) 43 cb := by
    rw [hW]
    have := Has.new (w.alloc (.cells ca 43)) 43 cb
    simpa using this
  have HB : Hid (Below w.heap.size w ((w.alloc (.cells ca 43)).alloc (.cells cb 43))) := Lib.hid (((Below.refl _ _).alloc (Nat.le_refl _) _).alloc (by simp) _)
  have d0 := (nA.cell 0).trans c0
  rw [hW] at d0
  have e100 : ((t : Int) == 100) = false := by simp; omega
  have e101 : ((t : Int) == 101) = false := by simp; omega
  have e102 : ((t : Int) == 102) = false := by simp; omega
  have e104 : ((t : Int) == 104) = false := by simp; omega
  have e107 : ((t : Int) == 107) = false := by simp; omega
  have e110 : ((t : Int) == 110) = false := by simp; omega
  have e111 : ((t : Int) == 111) = false := by simp; omega
  have e114 : ((t : Int) == 114) = false := by simp; omega
  have e125 : ((t : Int) == 125) = false := by simp; omega
  have e126 : ((t : Int) == 126) = false := by simp; omega
  clear nA nB hW c0
  go_enter Tryz.func24, Tryz.ntmps24
  go_wp2
  go_ret
  exact ⟨⟨_, rfl, by simp⟩, HB.out⟩
theorem take_full {L M : List (List UInt8)} {j : Nat} (h : L.take j = M.take j) (hL : L.length ≤ j) (hM : M.length ≤ j) : L = M := by
  rw [List.take_of_length_le hL, List.take_of_length_le hM] at h
  exact h
set_option maxHeartbeats 2000000 in
theorem rtexts_110 (ca cb : Array Value) (w : World) (c0 : ca[0]? = some (.int .u8 110)) (lo hi : Nat) (hhi : hi ≤ w.heap.size) (x y : Value) (L M : List (List UInt8)) (a11 : ca[11]? = some x) (b11 : cb[11]? = some y) (hx : StrsAt w lo hi x L) (hy : StrsAt w lo hi y M) (hLl : L.length ≤ 1000) :
    Calls Tryz.prog 24 #[.agg ca, .agg cb] w (Tells w (L = M)) := by
  obtain ⟨W, hW⟩ : ∃ W, W = (w.alloc (.cells ca 43)).alloc (.cells cb 43) := ⟨_, rfl⟩
  have nA : Has W w.heap.size 43 ca := by rw [hW]; exact (Has.new w _ _).alloc _
  have nB : Has W (w.heap.size + 1) 43 cb := by
    rw [hW]
    have := Has.new (w.alloc (.cells ca 43)) 43 cb
    simpa using this
  have HB : Hid (Below w.heap.size w ((w.alloc (.cells ca 43)).alloc (.cells cb 43))) := Lib.hid (((Below.refl _ _).alloc (Nat.le_refl _) _).alloc (by simp) _)
  have d0 := (nA.cell 0).trans c0
  have k0 : Only (fun _ => False) w W := by rw [hW]; exact ((Only.refl _ w).alloc _).alloc _
  have hxW := hx.keep (k0.keeps hhi (fun _ _ _ h => h))
  have hyW := hy.keep (k0.keeps hhi (fun _ _ _ h => h))
  have hWs := k0.size
  have HX := Lib.hid (fun (w1 : World) (k : Only (fun _ => False) W w1) => hxW.keep (k.keeps (by omega) (fun _ _ _ h => h)))
  have HY := Lib.hid (fun (w1 : World) (k : Only (fun _ => False) W w1) => hyW.keep (k.keeps (by omega) (fun _ _ _ h => h)))
  have HA := Lib.hid (fun (w1 : World) (k : Only (fun _ => False) W w1) => ((nA.only k (fun h => h)).cell 11).trans a11)
  have HC := Lib.hid (fun (w1 : World) (k : Only (fun _ => False) W w1) => ((nB.only k (fun h => h)).cell 11).trans b11)
  have KB := Lib.hid (fun (w1 : World) (k : Only (fun _ => False) W w1) => (k0.trans k (fun _ _ h => h)).below (Nat.le_refl w.heap.size) (fun _ _ h => h.elim))
  obtain ⟨A, c, hxe, _⟩ := id hx
  obtain ⟨A2, c2, hye, _⟩ := id hy
  subst hxe hye
  rw [hW] at d0
  have HW := Lib.hid hW.symm
  have I0 : Hid (Only (fun _ => False) W W ∧ L.take 0 = M.take 0) := Lib.hid ⟨Only.refl _ _, rfl⟩
  clear nA nB hW c0 HB hx hy hxW hyW k0
  go_enter Tryz.func24, Tryz.ntmps24
  go_wp2_with fail
  rw [HW.out]
  clear d0 HW
  go_loopw [5] (fun i wr => ∃ j : Nat, j ≤ L.length ∧ j ≤ M.length ∧ i = .int .i64 j ∧ Hid (Only (fun _ => False) W wr ∧ L.take j = M.take j)) (fun i _ => L.length - (intOf i).toNat)
  case atStart => exact ⟨0, Nat.zero_le _, Nat.zero_le _, rfl, I0⟩
  case round =>
    obtain ⟨j, hj, hj2, rfl, hrel⟩ := hrel
    clear I0
    obtain ⟨kr, ht⟩ := hrel.out
    have dA := HA.out _ kr
    have dC := HC.out _ kr
    have kb := Lib.hid (KB.out _ kr)
    by_cases hlt : j < L.length
    · have i1 : (j : Int) < (L.length : Int) := by omega
      by_cases hlt2 : j < M.length
      · have i2 : (j : Int) < (M.length : Int) := by omega
        have i0 : (0 : Int) ≤ (j : Int) := by omega
        obtain ⟨A', c', hAe, _, _, hcs⟩ := HX.out _ kr
        injection hAe with hA hn hc
        subst hA hc
        obtain ⟨ad, rfl, _, _, hcl⟩ := hcs (by omega)
        obtain ⟨A'', c'', hAe2, _, _, hcs2⟩ := HY.out _ kr
        injection hAe2 with hA2 hn2 hc2
        subst hA2 hc2
        obtain ⟨ad2, rfl, _, _, hcl2⟩ := hcs2 (by omega)
        have q1 := hcl j hlt
        have q2 := hcl2 j hlt2
        by_cases heq : L[j]'hlt = M[j]'hlt2
        · rw [← heq] at q2
          have R : Hid (∀ n, Only (fun _ => False) W (wr.drewN n) ∧ L.take (j + 1) = M.take (j + 1)) := Lib.hid (fun n => ⟨⟨kr.os, kr.tape, kr.output, kr.size, kr.block⟩, by rw [List.take_succ_eq_append_getElem hlt, List.take_succ_eq_append_getElem hlt2, ht, heq]⟩)
          obtain ⟨tx, htx⟩ : ∃ t, t = L[j]'hlt := ⟨_, rfl⟩
          rw [← htx] at q1 q2
          clear kr ht hrel hcl hcl2 hcs hcs2 heq htx HX HY HA HC KB
          go_wp2_with fail
          go_quiet (fail)
          go_wp2
          go_roundw
          case rel => exact ⟨j + 1, by omega, by omega, by go_num, R.out _⟩
          case measure => simp [intOf]; omega
        · have g : ((strOf (L[j]'hlt)).toList == (strOf (M[j]'hlt2)).toList) = false := by rw [strOf_list, strOf_list]; simpa using heq
          have hne : L ≠ M := fun e => heq (by subst e; rfl)
          have R : Hid (∀ n, Below w.heap.size w (wr.drewN n)) := Lib.hid (fun n => kb.out.trans ((below_drewN wr n).mono kb.out.size))
          obtain ⟨tx, htx⟩ : ∃ t, t = L[j]'hlt := ⟨_, rfl⟩
          obtain ⟨ty, hty⟩ : ∃ t, t = M[j]'hlt2 := ⟨_, rfl⟩
          rw [← htx] at q1 g
          rw [← hty] at q2 g
          clear kr ht hrel hcl hcl2 hcs hcs2 heq htx hty HX HY HA HC KB
          go_wp2_with fail
          go_quiet (fail)
          go_wp2
          go_ret
          exact ⟨⟨_, rfl, by simp [hne]⟩, R.out _⟩
      · have hj4 : j = M.length := by omega
        subst hj4
        have hne : L ≠ M := fun e => by subst e; omega
        clear kr ht hrel HX HY HA HC KB
        go_wp2
        go_ret
        exact ⟨⟨_, rfl, by simp [hne]; omega⟩, kb.out⟩
    · have hj4 : j = L.length := by omega
      subst hj4
      have hiff : L.length = M.length ↔ L = M := ⟨fun e => take_full ht (Nat.le_refl _) (by omega), fun e => by rw [e]⟩
      have HI := Lib.hid hiff
      clear kr ht hrel HX HY HA HC KB hiff
      go_wp2
      go_ret
      exact ⟨⟨_, rfl, by rw [← HI.out]; simp; omega⟩, kb.out⟩
end Go.Proofs.YtepiifbleoimkaaGreatDoor
