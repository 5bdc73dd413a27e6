/-
  Layer 11's own 'known': an inode there and back.
-/
import Derived.Test.YtjlipfddbpgglaaLaw11A
namespace Go.Proofs.Ytjlipfddbpgglaa
open Go.RowKit Go.Lib
set_option maxRecDepth 100000

def kI : I14 := ⟨420, 3, 100, 1, 0, 0, 0, 0, 0, 0, 0, 5, 9, 0⟩
theorem kI_num : kI.Num := by constructor <;> decide
theorem kI_may : kI.May := by constructor <;> decide
theorem no63 : ¬ isI (List.replicate 63 0) := fun h => absurd (isI_len h) (by decide)
set_option maxHeartbeats 4000000 in
theorem known11_any (w : World) : Calls Try.prog 7 #[] w fun e w' => e = .returned (.bool true) ∧ Still w w' := by
  have Z0 : I14.zero.cells = #[.int .u32 0, .int .u32 0, .int .u32 0, .int .u16 0, .int .u32 0, .int .u32 0, .int .u32 0, .int .u32 0, .int .u32 0, .int .u32 0, .int .u32 0, .int .u32 0, .int .u32 0, .int .u32 0] := rfl
  obtain ⟨zs, hzs⟩ : ∃ zs : Array Value, zs = #[.int .u32 0, .int .u32 0, .int .u32 0, .int .u16 0, .int .u32 0, .int .u32 0, .int .u32 0, .int .u32 0, .int .u32 0, .int .u32 0, .int .u32 0, .int .u32 0, .int .u32 0, .int .u32 0] := ⟨_, rfl⟩
  have ZS : Hid (zs = I14.zero.cells) := Lib.hid (by rw [hzs, Z0])
  obtain ⟨ci, hci⟩ : ∃ ci, ci = kI.cells := ⟨_, rfl⟩
  have ZI : Hid (ci.size = 14) := Lib.hid (by rw [hci]; exact kI.cells_size)
  have OI : Hid (ci.all (fun x => x.oneCell') = true) := Lib.hid (by rw [hci]; exact kI.cells_one)
  have ZZ : Hid (zs.size = 14) := Lib.hid (by rw [ZS.out]; exact I14.zero.cells_size)
  have OZ : Hid (zs.all (fun x => x.oneCell') = true) := Lib.hid (by rw [ZS.out]; exact I14.zero.cells_one)
  have EN : Hid (∀ W, Calls Try.prog 8 #[.agg #[.int .u32 420, .int .u32 3, .int .u32 100, .int .u16 1, .int .u32 0, .int .u32 0, .int .u32 0, .int .u32 0, .int .u32 0, .int .u32 0, .int .u32 0, .int .u32 5, .int .u32 9, .int .u32 0]] W fun e w' => ∃ A c, e = .returned (.tuple #[.slice A 64 c, .int .i64 0]) ∧ SlIs w' W.heap.size w'.heap.size (.slice A 64 c) kI.bytes ∧ Still W w') := Lib.hid (fun W => iencode_yes kI_num kI_may W)
  have DE : Hid (∀ W A c lo, SlIs W lo W.heap.size (.slice A 64 c) kI.bytes → Calls Try.prog 12 #[.slice A 64 c] W fun e w' => e = .returned (.tuple #[.agg ci, .int .i64 0]) ∧ Still W w') := Lib.hid (fun W A c lo h => by rw [hci]; exact idecode_own kI_num kI_may _ lo _ W h (Nat.le_refl _))
  have DN : Hid (∀ W A c lo, SlIs W lo W.heap.size (.slice A 63 c) (List.replicate 63 0) → Calls Try.prog 12 #[.slice A 63 c] W fun e w' => e = .returned (.tuple #[.agg zs, .int .i64 2]) ∧ Still W w') := Lib.hid (fun W A c lo h => by rw [ZS.out]; exact idecode_no no63 _ lo _ W h (Nat.le_refl _) (by decide))
  have CK : Hid (∀ W, Calls Try.prog 10 #[.agg ci] W fun e w' => e = .returned (.int .i64 0) ∧ Still W w') := Lib.hid (fun W => by
    have := icheck_any kI W
    rw [I14.chk_yes kI_may] at this
    rw [hci]
    exact this)
  have B1 : Hid (∀ W, Calls Try.prog 14 #[.int .u32 100, .int .i64 64] W fun e w' => e = .returned (.int .i64 2) ∧ W = w') := Lib.hid (fun W => blocks_some 100 64 (by decide) (by decide) (by decide) W)
  have B2 : Hid (∀ W, Calls Try.prog 14 #[.int .u32 5, .int .i64 63] W fun e w' => e = .returned (.int .i64 0) ∧ W = w') := Lib.hid (fun W => blocks_none 5 63 (.inl (by decide)) W)
  have q1 : ∀ w, (binOp .eql 26 (.agg ci) (.agg ci)).run Try.prog w = .ok (.bool true) w := by rw [hci]; exact Try.eqInode kI
  have MZ : Hid (∀ W : World, W.alloc (.cells zs 26) = W.alloc (.cells #[.int .u32 0, .int .u32 0, .int .u32 0, .int .u16 0, .int .u32 0, .int .u32 0, .int .u32 0, .int .u32 0, .int .u32 0, .int .u32 0, .int .u32 0, .int .u32 0, .int .u32 0, .int .u32 0] 26)) := Lib.hid (fun W => by rw [hzs])
  have HZS := Lib.hid hzs
  have G0 : Hid (Has (w.alloc (.cells #[.int .u32 420, .int .u32 3, .int .u32 100, .int .u16 1, .int .u32 0, .int .u32 0, .int .u32 0, .int .u32 0, .int .u32 0, .int .u32 0, .int .u32 0, .int .u32 5, .int .u32 9, .int .u32 0] 26)) w.heap.size 26 ci) := Lib.hid (by rw [hci]; exact Has.new w 26 kI.cells)
  have K0 : Hid (Still w (w.alloc (.cells #[.int .u32 420, .int .u32 3, .int .u32 100, .int .u16 1, .int .u32 0, .int .u32 0, .int .u32 0, .int .u32 0, .int .u32 0, .int .u32 0, .int .u32 0, .int .u32 5, .int .u32 9, .int .u32 0] 26))) := Lib.hid ((Still.refl w).alloc _)
  clear Z0 hci hzs
  go_enter Try.func7, Try.ntmps7
  go_wp2_with fail
  refine (EN.out _).mono ?_
  rintro e w3 ⟨A, c, rfl, s3, k3⟩
  have G3 := Lib.hid (k3.has G0.out)
  have K3 := Lib.hid (K0.out.trans k3)
  have D3 := Lib.hid (DE.out w3 A c _ s3)
  clear k3 s3 EN DE G0 K0
  go_wp2_with fail
  refine D3.out.mono ?_
  rintro e w4 ⟨rfl, k4⟩
  have G4 := Lib.hid (k4.has G3.out)
  have K4 := Lib.hid (K3.out.trans k4)
  have X4 := Lib.hid (Has.new w4 26 zs)
  obtain ⟨W4, hW4⟩ : ∃ W, W = (w4.alloc (.cells zs 26)).setRow w4.heap.size ci := ⟨_, rfl⟩
  have HW4 := Lib.hid hW4.symm
  have Y4 : Hid (Has W4 w4.heap.size 26 ci) := Lib.hid (by rw [hW4]; exact X4.out.setRow ci)
  have k4' : Still w4 W4 := by
    rw [hW4]
    exact Only.setRow ((Still.refl w4).alloc _) (fun h => absurd h (Nat.lt_irrefl _)) ci
  have G5 := Lib.hid (k4'.has G4.out)
  have K5 := Lib.hid (K4.out.trans k4')
  obtain ⟨w6, hmk', o6, k6, l6⟩ := make_bytes 63 (by omega) W4
  have hmk : (Instr.makeSlice 28 (.int .i64 63) (.int .i64 63)).run Try.prog W4 = .ok (.slice (some ⟨W4.heap.size, 0, none⟩) 63 63) w6 := hmk'
  have D6 := Lib.hid (DN.out w6 _ _ _ (owns_SlIs o6))
  have k6 : Still W4 w6 := k6
  have G6 := Lib.hid (k6.has G5.out)
  have K6 := Lib.hid (K5.out.trans k6)
  have Y6 := Lib.hid (k6.has Y4.out)
  clear k4 D3 G3 K3 hW4 k4' hmk' o6 k6 l6 G4 K4 G5 K5 Y4 DN
  go_wp2_with (first
    | (rw [← MZ.out]; refine store_struct Try.inoSize w4.heap.size ci (.tmp 4) (.tmp 19) rfl rfl rfl rfl X4.out ZZ.out ZI.out OI.out ?_; rw [HW4.out])
    | fail)
  refine D6.out.mono ?_
  rintro e w7 ⟨rfl, k7⟩
  have X7 := Lib.hid (Has.new w7 26 zs)
  obtain ⟨W7, hW7⟩ : ∃ W, W = (w7.alloc (.cells zs 26)).setRow w7.heap.size zs := ⟨_, rfl⟩
  have HW7 := Lib.hid hW7.symm
  have k7' : Still w7 W7 := by
    rw [hW7]
    exact Only.setRow ((Still.refl w7).alloc _) (fun h => absurd h (Nat.lt_irrefl _)) zs
  have G7 := Lib.hid ((k7.trans k7').has G6.out)
  have Y7 := Lib.hid ((k7.trans k7').has Y6.out)
  have K7 := Lib.hid (K6.out.trans (k7.trans k7'))
  clear k7 k7' hW7 D6 G6 K6 Y6 hmk X4 HW4
  go_wp2_with (first
    | (rw [← MZ.out]; refine store_struct Try.inoSize w7.heap.size zs (.tmp 6) (.tmp 24) rfl rfl rfl rfl X7.out ZZ.out ZZ.out OZ.out ?_; rw [HW7.out])
    | (refine load_structG Try.underlying26 rfl Try.inoSize w4.heap.size ci (.tmp 4) rfl rfl rfl Y7.out ZI.out ?_)
    | (refine load_structG Try.underlying26 rfl Try.inoSize w.heap.size ci (.tmp 1) rfl rfl rfl G7.out ZI.out ?_)
    | fail)
  refine (B1.out _).mono ?_
  rintro e w' ⟨rfl, rfl⟩
  go_wp2_with fail
  refine (B2.out _).mono ?_
  rintro e w' ⟨rfl, rfl⟩
  go_wp2_with (first
    | (refine load_structG Try.underlying26 rfl Try.inoSize w.heap.size ci (.tmp 1) rfl rfl rfl G7.out ZI.out ?_)
    | fail)
  refine (CK.out _).mono ?_
  rintro e w8 ⟨rfl, k8⟩
  have R := Lib.hid (K7.out.trans k8)
  clear k8 K7 G7 Y7 X7 HW7 B1 B2 CK
  go_wp2
  go_ret
  exact ⟨rfl, R.out⟩
end Go.Proofs.Ytjlipfddbpgglaa
