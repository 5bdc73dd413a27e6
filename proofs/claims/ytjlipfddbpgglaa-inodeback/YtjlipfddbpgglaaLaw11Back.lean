/-
  Layer 11's InodeBack: whatever inode, it answers true and leaves what was there.
-/
import Derived.Test.YtjlipfddbpgglaaLaw11Four
namespace Go.Proofs.Ytjlipfddbpgglaa
open Go.RowKit Go.Lib
set_option maxRecDepth 100000

set_option maxHeartbeats 1000000 in
theorem iback_no (i : I14) (hi : i.Num) (hc : ¬ i.May) (w : World) : Calls Try.prog 3 #[.agg i.cells] w fun e w' => e = .returned (.bool true) ∧ Still w w' := by
  have EN := Lib.hid (fun W => iencode_no hi hc W)
  have CL := Lib.hid (fun W => check11_any i W)
  have CK := Lib.hid (fun W => icheck_any i W)
  rw [I14.chk_no hc] at CL CK
  have HZ := Lib.hid i.cells_size
  have P0 := Lib.hid (Has.new w 26 i.cells)
  have K0 := Lib.hid ((Still.refl w).alloc (.cells i.cells 26))
  generalize i.cells = cs at *
  clear hi hc
  go_enter Try.func3, Try.ntmps3
  go_wp2_with fail
  refine (known11_any _).mono ?_
  rintro e w1 ⟨rfl, k1⟩
  have P1 := Lib.hid (k1.has P0.out)
  have K1 := Lib.hid (K0.out.trans k1)
  clear k1 P0 K0
  go_wp2_with (first
    | (refine load_struct Try.underlying26 rfl Try.inoSize w.heap.size cs (.tmp 1) rfl rfl rfl P1.out HZ.out ?_)
    | fail)
  refine (EN.out _).mono ?_
  rintro e w2 ⟨rfl, k2⟩
  have P2 := Lib.hid (k2.has P1.out)
  have K2 := Lib.hid (K1.out.trans k2)
  clear k2 P1 K1 EN
  go_wp2_with (first
    | (refine load_struct Try.underlying26 rfl Try.inoSize w.heap.size cs (.tmp 1) rfl rfl rfl P2.out HZ.out ?_)
    | fail)
  refine (CL.out _).mono ?_
  rintro e w3 ⟨rfl, k3⟩
  have P3 := Lib.hid (k3.has P2.out)
  have K3 := Lib.hid (K2.out.trans k3)
  clear k3 P2 K2 CL
  go_wp2_with (first
    | (refine load_structG Try.underlying26 rfl Try.inoSize w.heap.size cs (.tmp 1) rfl rfl rfl P3.out HZ.out ?_)
    | fail)
  refine (CK.out _).mono ?_
  rintro e w4 ⟨rfl, k4⟩
  have R := Lib.hid (K3.out.trans k4)
  clear k4 P3 K3 CK
  go_wp2
  go_ret
  exact ⟨rfl, R.out⟩

set_option maxHeartbeats 4000000 in
theorem iback_yes (i : I14) (hi : i.Num) (hc : i.May) (w : World) : Calls Try.prog 3 #[.agg i.cells] w fun e w' => e = .returned (.bool true) ∧ Still w w' := by
  have EN := Lib.hid (fun W => iencode_yes hi hc W)
  have CL := Lib.hid (fun W => check11_any i W)
  have CK := Lib.hid (fun W => icheck_any i W)
  rw [I14.chk_yes hc] at CL CK
  have DE : Hid (∀ W v lo hi', SlIs W lo hi' v i.bytes → hi' ≤ W.heap.size → Calls Try.prog 12 #[v] W fun e w' => e = .returned (.tuple #[.agg i.cells, .int .i64 0]) ∧ Still W w') := Lib.hid (fun W v lo hi' h hh => idecode_own hi hc v lo hi' W h hh)
  have HZ := Lib.hid i.cells_size
  have HO := Lib.hid i.cells_one
  have HC : Hid (∀ W, Has W w.heap.size 26 i.cells → _) := Lib.hid (fun W h => I14.cellsOf (w := W) (g := w.heap.size) (t := 26) (i := i) h)
  have q1 := Try.eqInode i
  have P0 := Lib.hid (Has.new w 26 i.cells)
  have K0 := Lib.hid ((Still.refl w).alloc (.cells i.cells 26))
  have HB : Hid (i.bytes = putB 4 i.m ++ putB 4 i.v ++ putB 4 i.s ++ (putB 2 i.l ++ [0, 0]) ++ putB 4 i.d0 ++ putB 4 i.d1 ++ putB 4 i.d2 ++ putB 4 i.d3 ++ putB 4 i.d4 ++ putB 4 i.d5 ++ putB 4 i.d6 ++ putB 4 i.d7 ++ putB 4 i.a ++ putB 4 i.b ++ List.replicate 8 0) := Lib.hid (by unfold I14.bytes; simp [List.replicate])
  have HN := Lib.hid hi
  obtain ⟨zs, hzs⟩ : ∃ zs : Array Value, zs = #[.int .u32 0, .int .u32 0, .int .u32 0, .int .u16 0, .int .u32 0, .int .u32 0, .int .u32 0, .int .u32 0, .int .u32 0, .int .u32 0, .int .u32 0, .int .u32 0, .int .u32 0, .int .u32 0] := ⟨_, rfl⟩
  have MZ : Hid (∀ W : World, W.alloc (.cells zs 26) = W.alloc (.cells #[.int .u32 0, .int .u32 0, .int .u32 0, .int .u16 0, .int .u32 0, .int .u32 0, .int .u32 0, .int .u32 0, .int .u32 0, .int .u32 0, .int .u32 0, .int .u32 0, .int .u32 0, .int .u32 0] 26)) := Lib.hid (fun W => by rw [hzs])
  have ZZ : Hid (zs.size = 14) := Lib.hid (by rw [hzs]; rfl)
  clear hzs
  generalize i.bytes = bs at *
  obtain ⟨cs, hcs⟩ : ∃ cs, cs = i.cells := ⟨_, rfl⟩
  rw [← hcs] at EN CL CK DE HZ HO HC q1 P0 K0 ⊢
  clear hi hc hcs
  go_enter Try.func3, Try.ntmps3
  go_wp2_with fail
  refine (known11_any _).mono ?_
  rintro e w1 ⟨rfl, k1⟩
  have P1 := Lib.hid (k1.has P0.out)
  have K1 := Lib.hid (K0.out.trans k1)
  clear k1 P0 K0
  go_wp2_with (first
    | (refine load_struct Try.underlying26 rfl Try.inoSize w.heap.size cs (.tmp 1) rfl rfl rfl P1.out HZ.out ?_)
    | fail)
  refine (EN.out _).mono ?_
  rintro e w2 ⟨Ab, cb, rfl, s2, k2⟩
  have P2 := Lib.hid (k2.has P1.out)
  have K2 := Lib.hid (K1.out.trans k2)
  have S2 : Hid (∀ W, Still w2 W → SlIs W w1.heap.size w2.heap.size (.slice Ab 64 cb) bs) := Lib.hid (fun W k => k.slis s2 (Nat.le_refl _))
  clear k2 s2 P1 K1 EN
  go_wp2_with (first
    | (refine load_struct Try.underlying26 rfl Try.inoSize w.heap.size cs (.tmp 1) rfl rfl rfl P2.out HZ.out ?_)
    | fail)
  refine (CL.out _).mono ?_
  rintro e w3 ⟨rfl, k3⟩
  have P3 := Lib.hid (k3.has P2.out)
  have K3 := Lib.hid k3
  clear k3 P2 CL
  go_wp2_with (first
    | (refine load_structG Try.underlying26 rfl Try.inoSize w.heap.size cs (.tmp 1) rfl rfl rfl P3.out HZ.out ?_)
    | fail)
  refine (CK.out _).mono ?_
  rintro e w4 ⟨rfl, k4⟩
  have P4 := Lib.hid (k4.has P3.out)
  have K4 := Lib.hid (K3.out.trans k4)
  have A4 : Hid (LW w4 w.heap.size cs (.slice none 0 0) [] w4) := Lib.hid ⟨P4.out, P4.out.lt, World.ownsRow_nil _ _ _ _, Still.refl _⟩
  have x0 := (HC.out _ P4.out).1
  have x1 := (HC.out _ P4.out).2.1
  have x2 := (HC.out _ P4.out).2.2.1
  clear k4 P3 K3 CK
  go_wp2
  refine wp_region_held_drew (S := fun w' => w'.cell? ⟨w.heap.size, 0, none⟩ = some (.int .u32 (i.m : Int)) ∧ w'.cell? ⟨w.heap.size, 1, none⟩ = some (.int .u32 (i.v : Int)) ∧ w'.cell? ⟨w.heap.size, 2, none⟩ = some (.int .u32 (i.s : Int))) (by kernel_rfl) ?_ (fun hHeld => ?_)
  · exact ⟨x0, x1, x2⟩
  refine takeH (i := 0) (d := 33) (v := ?_) (by kernel_rfl) (by kernel_rfl) (by kernel_rfl) rfl (fun _ _ _ h => h) (by rfl) ?_ hHeld ?_
  rotate_left
  · intro o ho w hSw
    cases ho
    go_simp
    try with_reducible rfl
  simp only [Act.put, List.setIfInBounds_toArray, List.set_cons_zero, List.set_cons_succ]
  refine takeH (i := 1) (d := 34) (v := ?_) (by kernel_rfl) (by kernel_rfl) (by kernel_rfl) rfl (fun _ _ _ h => h) (by rfl) ?_ hHeld ?_
  rotate_left
  · intro o ho w hSw
    cases ho
    go_simp
    try with_reducible rfl
  simp only [Act.put, List.setIfInBounds_toArray, List.set_cons_zero, List.set_cons_succ]
  refine takeH (i := 3) (d := 36) (v := ?_) (by kernel_rfl) (by kernel_rfl) (by kernel_rfl) rfl (fun _ _ _ h => h) (by rfl) ?_ hHeld ?_
  rotate_left
  · intro o ho w hSw
    cases ho
    go_simp
    try with_reducible rfl
  simp only [Act.put, List.setIfInBounds_toArray, List.set_cons_zero, List.set_cons_succ]
  refine takeH (i := 4) (d := 37) (v := ?_) (by kernel_rfl) (by kernel_rfl) (by kernel_rfl) rfl (fun _ _ _ h => h) (by rfl) ?_ hHeld ?_
  rotate_left
  · intro o ho w hSw
    cases ho
    go_simp
    try with_reducible rfl
  simp only [Act.put, List.setIfInBounds_toArray, List.set_cons_zero, List.set_cons_succ]
  refine takeH (i := 6) (d := 39) (v := ?_) (by kernel_rfl) (by kernel_rfl) (by kernel_rfl) rfl (fun _ _ _ h => h) (by rfl) ?_ hHeld ?_
  rotate_left
  · intro o ho w hSw
    cases ho
    go_simp
    try with_reducible rfl
  simp only [Act.put, List.setIfInBounds_toArray, List.set_cons_zero, List.set_cons_succ]
  refine takeH (i := 7) (d := 40) (v := ?_) (by kernel_rfl) (by kernel_rfl) (by kernel_rfl) rfl (fun _ _ _ h => h) (by rfl) ?_ hHeld ?_
  rotate_left
  · intro o ho w hSw
    cases ho
    go_simp
    try with_reducible rfl
  simp only [Act.put, List.setIfInBounds_toArray, List.set_cons_zero, List.set_cons_succ]
  refine wpAnyH_ready (rs := [2]) (by kernel_rfl) (by simp) ?_
  refine AllReadyH.cons rfl (fun K hK => ?_) AllReadyH.nil
  go_simp
  refine ((A4.out.keep ((Still.refl w4).drew)).four i.m (by decide)).mono ?_
  rintro e w5 ⟨v5, rfl, h5⟩
  have A5 := Lib.hid h5
  clear x0 x1 x2
  have x0 := (HC.out _ h5.row).1
  have x1 := (HC.out _ h5.row).2.1
  have x2 := (HC.out _ h5.row).2.2.1
  clear h5 A4
  try go_wp2_with fail
  refine hK.out _ _ ?_ (fun hHeld => ?_)
  · exact ⟨x0, x1, x2⟩
  clear hK K
  refine wpAnyH_ready (rs := [5]) (by kernel_rfl) (by simp) ?_
  refine AllReadyH.cons rfl (fun K hK => ?_) AllReadyH.nil
  go_simp
  refine ((A5.out.keep (Still.refl w5)).four i.v (by simp [putB_length])).mono ?_
  rintro e w6 ⟨v6, rfl, h6⟩
  have A6 := Lib.hid h6
  clear x0 x1 x2
  have x0 := (HC.out _ h6.row).1
  have x1 := (HC.out _ h6.row).2.1
  have x2 := (HC.out _ h6.row).2.2.1
  clear h6 A5
  try go_wp2_with fail
  refine hK.out _ _ ?_ (fun hHeld => ?_)
  · exact ⟨x0, x1, x2⟩
  clear hK K
  refine wpAnyH_ready (rs := [8]) (by kernel_rfl) (by simp) ?_
  refine AllReadyH.cons rfl (fun K hK => ?_) AllReadyH.nil
  go_simp
  refine ((A6.out.keep (Still.refl w6)).four i.s (by simp [putB_length])).mono ?_
  rintro e w7 ⟨v7, rfl, h7⟩
  have A7 := Lib.hid h7
  clear x0 x1 x2
  have x0 := (HC.out _ h7.row).1
  have x1 := (HC.out _ h7.row).2.1
  have x2 := (HC.out _ h7.row).2.2.1
  clear h7 A6
  try go_wp2_with fail
  refine hK.out _ _ ?_ (fun hHeld => ?_)
  · exact ⟨x0, x1, x2⟩
  clear hK K
  refine takeH (i := 9) (d := 6) (v := ?_) (by kernel_rfl) (by kernel_rfl) (by kernel_rfl) rfl (fun _ _ _ h => h) (by rfl) ?_ hHeld ?_
  rotate_left
  · intro o ho w hSw
    cases ho
    go_simp
    try with_reducible rfl
  simp only [Act.put, List.setIfInBounds_toArray, List.set_cons_zero, List.set_cons_succ]
  refine wpAnyH_done (by kernel_rfl) ?_ _
  clear x0 x1 x2 hHeld
  have x3 := (HC.out _ A7.out.row).2.2.2.1
  obtain ⟨i0, hi0, hz0, hz1, hz2⟩ := info_parts Try.info8
  obtain ⟨p0, p1, hp, e0, e1⟩ := two_of i.l
  rw [hp] at HB
  have O8 := Lib.hid (A7.out.keep ((Still.refl w7).alloc (.cells #[.int .u8 (p0.toNat : Int), .int .u8 (p1.toNat : Int), .int .u8 0, .int .u8 0] 5))).own
  have S8 := Lib.hid (lit_SlIs w7 5 (0, 0) [p0, p1, 0, 0] 4 rfl (by decide))
  have HL : Hid ((([] ++ putB 4 i.m ++ putB 4 i.v ++ putB 4 i.s) ++ [p0, p1, 0, 0]).length ≤ 140737488355328) := Lib.hid (by simp [putB_length])
  have HS : Hid (w4.heap.size ≤ (w7.alloc (.cells #[.int .u8 (p0.toNat : Int), .int .u8 (p1.toNat : Int), .int .u8 0, .int .u8 0] 5)).heap.size) := Lib.hid (A7.out.keep ((Still.refl w7).alloc _)).still.size
  clear hp
  go_wp2_with (at_builtin; refine wpList_append_bytes _ rfl (.tmp 42) (.tmp 50) 28 rfl w4.heap.size 5 i0 Try.underlying28 hi0 hz0 hz1 hz2 v7 ([] ++ putB 4 i.m ++ putB 4 i.v ++ putB 4 i.s) [p0, p1, 0, 0] rfl O8.out _ _ _ rfl S8.out HL.out HS.out ?_)
  intro v8 w8 o8 g8 _
  obtain ⟨X8, hX8⟩ : ∃ X, X = putB 4 i.m ++ (putB 4 i.v ++ (putB 4 i.s ++ [p0, p1, 0, 0])) := ⟨_, rfl⟩
  have A8 : Hid (LW w4 w.heap.size cs v8 X8 w8) := Lib.hid (by rw [hX8]; exact LW.grown (A7.out.keep ((Still.refl w7).alloc (.cells #[.int .u8 (p0.toNat : Int), .int .u8 (p1.toNat : Int), .int .u8 0, .int .u8 0] 5))) o8 g8)
  have L8 : Hid (X8.length = 16) := Lib.hid (by rw [hX8]; simp [putB_length])
  have E8 := Lib.hid hX8
  clear o8 g8 x3 O8 S8 HL HS A7 e0 e1 hX8
  go_wp2
  refine wp_loop_rounds 9 ?_
  rw [rounds_succ]
  have x4 := (HC.out _ A8.out.row).2.2.2.2.1
  have C8 := Lib.hid (A8.out.four i.d0 (by rw [L8.out]; decide))
  go_wp2_with fail
  refine C8.out.mono ?_
  rintro e w9 ⟨v9, rfl, h9⟩
  obtain ⟨X9, hX9⟩ : ∃ X, X = X8 ++ putB 4 i.d0 := ⟨_, rfl⟩
  rw [← hX9] at h9
  have A9 := Lib.hid h9
  have L9 : Hid (X9.length = 20) := Lib.hid (by rw [hX9, List.length_append, L8.out, putB_length])
  have E9 := Lib.hid hX9
  clear x4 C8 h9 hX9 A8 L8
  go_wp2
  rw [rounds_succ]
  have x5 := (HC.out _ A9.out.row).2.2.2.2.2.1
  have C9 := Lib.hid (A9.out.four i.d1 (by rw [L9.out]; decide))
  go_wp2_with fail
  refine C9.out.mono ?_
  rintro e w10 ⟨v10, rfl, h10⟩
  obtain ⟨X10, hX10⟩ : ∃ X, X = X9 ++ putB 4 i.d1 := ⟨_, rfl⟩
  rw [← hX10] at h10
  have A10 := Lib.hid h10
  have L10 : Hid (X10.length = 24) := Lib.hid (by rw [hX10, List.length_append, L9.out, putB_length])
  have E10 := Lib.hid hX10
  clear x5 C9 h10 hX10 A9 L9
  go_wp2
  rw [rounds_succ]
  have x6 := (HC.out _ A10.out.row).2.2.2.2.2.2.1
  have C10 := Lib.hid (A10.out.four i.d2 (by rw [L10.out]; decide))
  go_wp2_with fail
  refine C10.out.mono ?_
  rintro e w11 ⟨v11, rfl, h11⟩
  obtain ⟨X11, hX11⟩ : ∃ X, X = X10 ++ putB 4 i.d2 := ⟨_, rfl⟩
  rw [← hX11] at h11
  have A11 := Lib.hid h11
  have L11 : Hid (X11.length = 28) := Lib.hid (by rw [hX11, List.length_append, L10.out, putB_length])
  have E11 := Lib.hid hX11
  clear x6 C10 h11 hX11 A10 L10
  go_wp2
  rw [rounds_succ]
  have x7 := (HC.out _ A11.out.row).2.2.2.2.2.2.2.1
  have C11 := Lib.hid (A11.out.four i.d3 (by rw [L11.out]; decide))
  go_wp2_with fail
  refine C11.out.mono ?_
  rintro e w12 ⟨v12, rfl, h12⟩
  obtain ⟨X12, hX12⟩ : ∃ X, X = X11 ++ putB 4 i.d3 := ⟨_, rfl⟩
  rw [← hX12] at h12
  have A12 := Lib.hid h12
  have L12 : Hid (X12.length = 32) := Lib.hid (by rw [hX12, List.length_append, L11.out, putB_length])
  have E12 := Lib.hid hX12
  clear x7 C11 h12 hX12 A11 L11
  go_wp2
  rw [rounds_succ]
  have x8 := (HC.out _ A12.out.row).2.2.2.2.2.2.2.2.1
  have C12 := Lib.hid (A12.out.four i.d4 (by rw [L12.out]; decide))
  go_wp2_with fail
  refine C12.out.mono ?_
  rintro e w13 ⟨v13, rfl, h13⟩
  obtain ⟨X13, hX13⟩ : ∃ X, X = X12 ++ putB 4 i.d4 := ⟨_, rfl⟩
  rw [← hX13] at h13
  have A13 := Lib.hid h13
  have L13 : Hid (X13.length = 36) := Lib.hid (by rw [hX13, List.length_append, L12.out, putB_length])
  have E13 := Lib.hid hX13
  clear x8 C12 h13 hX13 A12 L12
  go_wp2
  rw [rounds_succ]
  have x9 := (HC.out _ A13.out.row).2.2.2.2.2.2.2.2.2.1
  have C13 := Lib.hid (A13.out.four i.d5 (by rw [L13.out]; decide))
  go_wp2_with fail
  refine C13.out.mono ?_
  rintro e w14 ⟨v14, rfl, h14⟩
  obtain ⟨X14, hX14⟩ : ∃ X, X = X13 ++ putB 4 i.d5 := ⟨_, rfl⟩
  rw [← hX14] at h14
  have A14 := Lib.hid h14
  have L14 : Hid (X14.length = 40) := Lib.hid (by rw [hX14, List.length_append, L13.out, putB_length])
  have E14 := Lib.hid hX14
  clear x9 C13 h14 hX14 A13 L13
  go_wp2
  rw [rounds_succ]
  have x10 := (HC.out _ A14.out.row).2.2.2.2.2.2.2.2.2.2.1
  have C14 := Lib.hid (A14.out.four i.d6 (by rw [L14.out]; decide))
  go_wp2_with fail
  refine C14.out.mono ?_
  rintro e w15 ⟨v15, rfl, h15⟩
  obtain ⟨X15, hX15⟩ : ∃ X, X = X14 ++ putB 4 i.d6 := ⟨_, rfl⟩
  rw [← hX15] at h15
  have A15 := Lib.hid h15
  have L15 : Hid (X15.length = 44) := Lib.hid (by rw [hX15, List.length_append, L14.out, putB_length])
  have E15 := Lib.hid hX15
  clear x10 C14 h15 hX15 A14 L14
  go_wp2
  rw [rounds_succ]
  have x11 := (HC.out _ A15.out.row).2.2.2.2.2.2.2.2.2.2.2.1
  have C15 := Lib.hid (A15.out.four i.d7 (by rw [L15.out]; decide))
  go_wp2_with fail
  refine C15.out.mono ?_
  rintro e w16 ⟨v16, rfl, h16⟩
  obtain ⟨X16, hX16⟩ : ∃ X, X = X15 ++ putB 4 i.d7 := ⟨_, rfl⟩
  rw [← hX16] at h16
  have A16 := Lib.hid h16
  have L16 : Hid (X16.length = 48) := Lib.hid (by rw [hX16, List.length_append, L15.out, putB_length])
  have E16 := Lib.hid hX16
  clear x11 C15 h16 hX16 A15 L15
  go_wp2
  rw [rounds_succ]
  have x12 := (HC.out _ A16.out.row).2.2.2.2.2.2.2.2.2.2.2.2.1
  have x13 := (HC.out _ A16.out.row).2.2.2.2.2.2.2.2.2.2.2.2.2
  go_wp2
  refine wp_region_held_drew (S := fun w' => w'.cell? ⟨w.heap.size, 12, none⟩ = some (.int .u32 (i.a : Int)) ∧ w'.cell? ⟨w.heap.size, 13, none⟩ = some (.int .u32 (i.b : Int))) (by kernel_rfl) ?_ (fun hHeld => ?_)
  · exact ⟨x12, x13⟩
  refine takeH (i := 0) (d := 62) (v := ?_) (by kernel_rfl) (by kernel_rfl) (by kernel_rfl) rfl (fun _ _ _ h => h) (by rfl) ?_ hHeld ?_
  rotate_left
  · intro o ho w hSw
    cases ho
    go_simp
    try with_reducible rfl
  simp only [Act.put, List.setIfInBounds_toArray, List.set_cons_zero, List.set_cons_succ]
  refine takeH (i := 1) (d := 63) (v := ?_) (by kernel_rfl) (by kernel_rfl) (by kernel_rfl) rfl (fun _ _ _ h => h) (by rfl) ?_ hHeld ?_
  rotate_left
  · intro o ho w hSw
    cases ho
    go_simp
    try with_reducible rfl
  simp only [Act.put, List.setIfInBounds_toArray, List.set_cons_zero, List.set_cons_succ]
  refine takeH (i := 2) (d := 64) (v := ?_) (by kernel_rfl) (by kernel_rfl) (by kernel_rfl) rfl (fun _ _ _ h => h) (by rfl) ?_ hHeld ?_
  rotate_left
  · intro o ho w hSw
    cases ho
    go_simp
    try with_reducible rfl
  simp only [Act.put, List.setIfInBounds_toArray, List.set_cons_zero, List.set_cons_succ]
  refine takeH (i := 4) (d := 66) (v := ?_) (by kernel_rfl) (by kernel_rfl) (by kernel_rfl) rfl (fun _ _ _ h => h) (by rfl) ?_ hHeld ?_
  rotate_left
  · intro o ho w hSw
    cases ho
    go_simp
    try with_reducible rfl
  simp only [Act.put, List.setIfInBounds_toArray, List.set_cons_zero, List.set_cons_succ]
  refine takeH (i := 5) (d := 67) (v := ?_) (by kernel_rfl) (by kernel_rfl) (by kernel_rfl) rfl (fun _ _ _ h => h) (by rfl) ?_ hHeld ?_
  rotate_left
  · intro o ho w hSw
    cases ho
    go_simp
    try with_reducible rfl
  simp only [Act.put, List.setIfInBounds_toArray, List.set_cons_zero, List.set_cons_succ]
  refine wpAnyH_ready (rs := [3]) (by kernel_rfl) (by simp) ?_
  refine AllReadyH.cons rfl (fun K hK => ?_) AllReadyH.nil
  go_simp
  refine ((A16.out.keep ((Still.refl w16).drew)).four i.a (by rw [L16.out]; decide)).mono ?_
  rintro e w17 ⟨v17, rfl, h17⟩
  obtain ⟨X17, hX17⟩ : ∃ X, X = X16 ++ putB 4 i.a := ⟨_, rfl⟩
  rw [← hX17] at h17
  have A17 := Lib.hid h17
  have L17 : Hid (X17.length = 52) := Lib.hid (by rw [hX17, List.length_append, L16.out, putB_length])
  have E17 := Lib.hid hX17
  clear x12 x13
  have x12 := (HC.out _ h17.row).2.2.2.2.2.2.2.2.2.2.2.2.1
  have x13 := (HC.out _ h17.row).2.2.2.2.2.2.2.2.2.2.2.2.2
  clear h17 hX17 A16 L16
  try go_wp2_with fail
  refine hK.out _ _ ?_ (fun hHeld => ?_)
  · exact ⟨x12, x13⟩
  clear hK K
  refine wpAnyH_ready (rs := [6]) (by kernel_rfl) (by simp) ?_
  refine AllReadyH.cons rfl (fun K hK => ?_) AllReadyH.nil
  go_simp
  refine ((A17.out.keep (Still.refl w17)).four i.b (by rw [L17.out]; decide)).mono ?_
  rintro e w18 ⟨v18, rfl, h18⟩
  obtain ⟨X18, hX18⟩ : ∃ X, X = X17 ++ putB 4 i.b := ⟨_, rfl⟩
  rw [← hX18] at h18
  have A18 := Lib.hid h18
  have L18 : Hid (X18.length = 56) := Lib.hid (by rw [hX18, List.length_append, L17.out, putB_length])
  have E18 := Lib.hid hX18
  clear x12 x13
  have x12 := (HC.out _ h18.row).2.2.2.2.2.2.2.2.2.2.2.2.1
  have x13 := (HC.out _ h18.row).2.2.2.2.2.2.2.2.2.2.2.2.2
  clear h18 hX18 A17 L17
  try go_wp2_with fail
  refine hK.out _ _ ?_ (fun hHeld => ?_)
  · exact ⟨x12, x13⟩
  clear hK K
  refine wpAnyH_ready (rs := [7]) (by kernel_rfl) (by simp) ?_
  refine AllReadyH.cons rfl (fun K hK => ?_) AllReadyH.nil
  obtain ⟨v19, w19, hrun', o19, g19⟩ := run_append_zeros (P := Try.prog) w18 w4.heap.size 28 3 28 5 i0 .i64 Try.underlying28 Try.underlying3 hi0 hz0 hz1 hz2 v18 X18 A18.out.own (by rw [L18.out]; decide) 8 (by decide) (by rw [L18.out]; decide) A18.out.still.size
  have hrun : (Builtin.append_ #[28, 3] 28 #[v18, .int .i64 8]).run Try.prog w18 = .ok v19 w19 := hrun'
  have e19 : X18 ++ List.replicate 8 0 = bs := by
    rw [HB.out, E18.out, E17.out, E16.out, E15.out, E14.out, E13.out, E12.out, E11.out, E10.out, E9.out, E8.out]
    simp
  rw [e19] at o19
  have h19 := A18.out.grown o19 g19
  have A19 := Lib.hid h19
  clear x12 x13
  have x12 := (HC.out _ h19.row).2.2.2.2.2.2.2.2.2.2.2.2.1
  have x13 := (HC.out _ h19.row).2.2.2.2.2.2.2.2.2.2.2.2.2
  clear h19 hrun' e19 o19 g19 A18
  refine step_append_run rfl (.tmp 68) (.const (.int .i64 8)) 28 3 rfl rfl rfl hrun ?_
  refine hK.out _ _ ?_ (fun hHeld => ?_)
  · exact ⟨x12, x13⟩
  clear hK K hrun
  simp only [Act.put]
  refine takeH (i := 8) (d := 6) (v := ?_) (by kernel_rfl) (by kernel_rfl) (by kernel_rfl) rfl (fun _ _ _ h => h) (by rfl) ?_ hHeld ?_
  rotate_left
  · intro o ho w hSw
    cases ho
    go_simp
    try with_reducible rfl
  simp only [Act.put]
  refine wpAnyH_done (by kernel_rfl) ?_ _
  have KX := Lib.hid (K4.out.trans A19.out.still)
  have D19 := Lib.hid (DE.out w19 _ _ _ (S2.out w19 KX.out) KX.out.size)
  clear x12 x13 hHeld DE E8 E9 E10 E11 E12 E13 E14 E15 E16 E17 E18 HB L18
  go_wp2_with fail
  refine D19.out.mono ?_
  rintro e w20 ⟨rfl, k20⟩
  have X20 := Lib.hid (Has.new w20 26 zs)
  obtain ⟨W, hW⟩ : ∃ W, W = (w20.alloc (.cells zs 26)).setRow w20.heap.size cs := ⟨_, rfl⟩
  have HW := Lib.hid hW.symm
  have kW : Still w20 W := by
    rw [hW]
    exact Only.setRow ((Still.refl w20).alloc _) (fun h => absurd h (Nat.lt_irrefl _)) cs
  have Y20 : Hid (Has W w20.heap.size 26 cs) := Lib.hid (by rw [hW]; exact X20.out.setRow cs)
  have AW := A19.out.keep (k20.trans kW)
  have PW := Lib.hid AW.row
  have KW := Lib.hid (K4.out.trans AW.still)
  have r1 := run_str _ _ _ _ W (S2.out W KW.out)
  have r2 := run_str _ _ _ _ W (owns_SlIs AW.own)
  have R : Hid (Still w W) := Lib.hid (K2.out.trans KW.out)
  clear hW kW k20 AW D19 A19 KX S2 KW
  go_wp2_with (first
    | (rw [← MZ.out]; refine store_struct Try.inoSize w20.heap.size cs (.tmp 8) (.tmp 73) rfl rfl rfl rfl X20.out ZZ.out HZ.out HO.out ?_; rw [HW.out])
    | (refine load_structG Try.underlying26 rfl Try.inoSize w20.heap.size cs (.tmp 8) rfl rfl rfl Y20.out HZ.out ?_)
    | (refine load_structG Try.underlying26 rfl Try.inoSize w.heap.size cs (.tmp 1) rfl rfl rfl PW.out HZ.out ?_)
    | fail)
  go_ret
  exact ⟨rfl, R.out⟩
theorem iback_any (i : I14) (hi : i.Num) (w : World) : Calls Try.prog 3 #[i.val] w fun e w' => e = .returned (.bool true) ∧ Still w w' := by
  by_cases h : i.May
  · exact iback_yes i hi h w
  · exact iback_no i hi h w
end Go.Proofs.Ytjlipfddbpgglaa
