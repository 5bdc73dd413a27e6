/-
  The laws of layer 8: a page's bytes by a number.
-/
import Derived.Test.YtnhojcldeloigaaGreatPagesX
namespace Go.Proofs.YtnhojcldeloigaaGreat
open Go.RowKit Go.Lib Go.Maps
set_option maxRecDepth 100000

def pageB (v : Nat) : List UInt8 := (((List.replicate 48 (0 : UInt8)).set 0 (UInt8.ofNat v)).set 1 (UInt8.ofNat (v / 256))).set 47 (UInt8.ofNat v)
theorem pageB_len (v : Nat) : (pageB v).length = 48 := by simp [pageB]
theorem b8_hi (v : Nat) : b8 (UInt8.ofNat (v / 256)) = .int .u8 ((v : Int) / 256 % 256) := by
  rw [b8_ofNat, Int.natCast_ediv]
  rfl
set_option maxHeartbeats 1000000 in
theorem page8_any (v : Nat) (w : World) : Calls Tryz.prog 11 #[.int .i64 48, .int .u16 (v : Int)] w fun e w' => e = .returned (.string (strOf (pageB v))) ∧ Below w.heap.size w w' := by
  obtain ⟨w1, hmk0, o1, k1, s1⟩ := make_bytes 48 (by omega) w
  have hmk : (Instr.makeSlice 33 (.int .i64 48) (.int .i64 48)).run Tryz.prog w = .ok (.slice (some ⟨w.heap.size, 0, none⟩) 48 48) w1 := hmk0
  obtain ⟨o2, k2⟩ := set_byte o1 0 (UInt8.ofNat v)
  obtain ⟨o3, k3⟩ := set_byte o2 1 (UInt8.ofNat (v / 256))
  obtain ⟨o4, k4⟩ := set_byte o3 47 (UInt8.ofNat v)
  have f1 := World.ownsRow.frozenAt o1 0
  have f2 := World.ownsRow.frozenAt o2 1
  have f3 := World.ownsRow.frozenAt o3 47
  have c1 : w1.cell? ⟨w.heap.size, 0, none⟩ = some (.int .u8 0) := World.ownsRow.cellAt o1 0 (by omega)
  have c2 : (w1.setCell ⟨w.heap.size, 0, none⟩ (b8 (UInt8.ofNat v))).cell? ⟨w.heap.size, 1, none⟩ = some (.int .u8 0) := World.ownsRow.cellAt o2 1 (by omega)
  have c3 : ((w1.setCell ⟨w.heap.size, 0, none⟩ (b8 (UInt8.ofNat v))).setCell ⟨w.heap.size, 1, none⟩ (b8 (UInt8.ofNat (v / 256)))).cell? ⟨w.heap.size, 47, none⟩ = some (.int .u8 0) := World.ownsRow.cellAt o3 47 (by omega)
  have x4 : SlIs _ _ _ _ (pageB v) := owns_SlIs (bs := pageB v) o4
  have rs := run_str _ _ _ _ _ x4
  have kk : Only (fun i => w.heap.size ≤ i) w ((((w1.setCell ⟨w.heap.size, 0, none⟩ (b8 (UInt8.ofNat v))).setCell ⟨w.heap.size, 1, none⟩ (b8 (UInt8.ofNat (v / 256))))).setCell ⟨w.heap.size, 47, none⟩ (b8 (UInt8.ofNat v))) :=
    (((k1.mono (T := fun i => w.heap.size ≤ i) (fun _ _ h => h.elim)).trans k2 (fun i hi e => by omega)).trans k3 (fun i hi e => by omega)).trans k4 (fun i hi e => by omega)
  have R := Lib.hid (kk.below (Nat.le_refl _) (fun i hi h => by have h : w.heap.size ≤ i := h; omega))
  rw [b8_hi, b8_ofNat] at rs R f3 c3
  rw [b8_ofNat] at f2 c2
  clear o1 o2 o3 o4 k1 k2 k3 k4 x4 kk hmk0
  go_enter Tryz.func11, Tryz.ntmps11
  go_wp2
  go_ret
  exact ⟨rfl, R.out⟩
end Go.Proofs.YtnhojcldeloigaaGreat
