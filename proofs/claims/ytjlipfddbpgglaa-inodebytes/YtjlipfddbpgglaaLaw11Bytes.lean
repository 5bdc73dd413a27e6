/-
  Layer 11's InodeBytes: whatever bytes, it answers true and leaves what was there.
-/
import Derived.Test.YtjlipfddbpgglaaLaw11Known
import Derived.Test.YtjlipfddbpgglaaLaw11Bad
namespace Go.Proofs.Ytjlipfddbpgglaa
open Go.RowKit Go.Lib
set_option maxRecDepth 100000

set_option maxHeartbeats 4000000 in
theorem ibytes_any (A : Option Addr) (c : Nat) (bs : List UInt8) (w : World) (hx : SlIs w 0 w.heap.size (.slice A bs.length c) bs) (hl : bs.length ≤ 140737488355328) : Calls Try.prog 4 #[.slice A bs.length c] w fun e w' => e = .returned (.bool true) ∧ Still w w' := by
  have HX : Hid (∀ W, Still w W → SlIs W 0 w.heap.size (.slice A bs.length c) bs) := Lib.hid (fun W k => k.slis hx (Nat.le_refl _))
  have ZS : Hid (#[.int .u32 0, .int .u32 0, .int .u32 0, .int .u16 0, .int .u32 0, .int .u32 0, .int .u32 0, .int .u32 0, .int .u32 0, .int .u32 0, .int .u32 0, .int .u32 0, .int .u32 0, .int .u32 0] = I14.zero.cells) := Lib.hid rfl
  clear hx
  by_cases hi : isI bs
  · have DB : Hid (∀ W, Still w W → Calls Try.prog 12 #[.slice A bs.length c] W fun e w' => e = .returned (.tuple #[.agg (readI bs).cells, .int .i64 0]) ∧ Still W w') := Lib.hid (fun W k => idecode_yes hi _ _ _ W (HX.out W k) k.size)
    have EN : Hid (∀ W, Calls Try.prog 8 #[.agg (readI bs).cells] W fun e w' => ∃ A c, e = .returned (.tuple #[.slice A 64 c, .int .i64 0]) ∧ SlIs w' W.heap.size w'.heap.size (.slice A 64 c) bs ∧ Still W w') := Lib.hid (fun W => by
      have := iencode_yes (readI_num bs) hi.1 W
      rw [← hi.2] at this
      exact this)
    have HZ := Lib.hid (readI bs).cells_size
    have HO := Lib.hid (readI bs).cells_one
    have ZZ := Lib.hid I14.zero.cells_size
    generalize (readI bs).cells = cs at *
    generalize I14.zero.cells = zs at *
    have MZ : Hid (∀ W : World, W.alloc (.cells zs 26) = W.alloc (.cells #[.int .u32 0, .int .u32 0, .int .u32 0, .int .u16 0, .int .u32 0, .int .u32 0, .int .u32 0, .int .u32 0, .int .u32 0, .int .u32 0, .int .u32 0, .int .u32 0, .int .u32 0, .int .u32 0] 26)) := Lib.hid (fun W => by rw [ZS.out])
    clear hi
    go_enter Try.func4, Try.ntmps4
    go_wp2_with fail
    refine (known11_any _).mono ?_
    rintro e w1 ⟨rfl, k1⟩
    have K1 := Lib.hid k1
    have D1 := Lib.hid (DB.out w1 k1)
    clear k1 DB
    go_wp2_with fail
    refine D1.out.mono ?_
    rintro e w2 ⟨rfl, k2⟩
    have X2 := Lib.hid (Has.new w2 26 zs)
    have X3 := Lib.hid (X2.out.setRow cs)
    have K3 : Hid (Still w ((w2.alloc (.cells zs 26)).setRow w2.heap.size cs)) := Lib.hid ((K1.out.trans k2).trans (Only.setRow ((Still.refl w2).alloc _) (fun h => absurd h (Nat.lt_irrefl _)) cs))
    clear k2 K1 D1
    go_wp2_with (first
      | (rw [← MZ.out]; refine store_struct Try.inoSize w2.heap.size cs (.tmp 3) (.tmp 12) rfl rfl rfl rfl X2.out ZZ.out HZ.out HO.out ?_)
      | (refine load_struct Try.underlying26 rfl Try.inoSize w2.heap.size cs (.tmp 3) rfl rfl rfl X3.out HZ.out ?_)
      | fail)
    refine (EN.out _).mono ?_
    rintro e w4 ⟨A4, c4, rfl, s4, k4⟩
    have R := Lib.hid (K3.out.trans k4)
    have r1 := run_str _ _ _ _ w4 s4
    have r2 := run_str _ _ _ _ w4 (HX.out w4 R.out)
    clear s4 k4 K3 EN HX X2 X3
    go_wp2
    go_ret
    exact ⟨rfl, R.out⟩
  · have DB : Hid (∀ W, Still w W → Calls Try.prog 12 #[.slice A bs.length c] W fun e w' => e = .returned (.tuple #[.agg I14.zero.cells, .int .i64 2]) ∧ Still W w') := Lib.hid (fun W k => idecode_no hi _ _ _ W (HX.out W k) k.size hl)
    have ZZ := Lib.hid I14.zero.cells_size
    have OZ := Lib.hid I14.zero.cells_one
    have q0 : ∀ w, (binOp .neq 26 (.agg I14.zero.cells) (.agg #[.int .u32 0, .int .u32 0, .int .u32 0, .int .u16 0, .int .u32 0, .int .u32 0, .int .u32 0, .int .u32 0, .int .u32 0, .int .u32 0, .int .u32 0, .int .u32 0, .int .u32 0, .int .u32 0])).run Try.prog w = .ok (.bool false) w := Try.neqInode0
    generalize I14.zero.cells = zs at *
    have MZ : Hid (∀ W : World, W.alloc (.cells zs 26) = W.alloc (.cells #[.int .u32 0, .int .u32 0, .int .u32 0, .int .u16 0, .int .u32 0, .int .u32 0, .int .u32 0, .int .u32 0, .int .u32 0, .int .u32 0, .int .u32 0, .int .u32 0, .int .u32 0, .int .u32 0] 26)) := Lib.hid (fun W => by rw [ZS.out])
    by_cases h64 : bs.length = 64
    · have HB : Hid (∀ W, Still w W → Calls Try.prog 13 #[.slice A 64 c] W fun e w' => e = .returned (.bool true) ∧ Still W w') := Lib.hid (fun W k => by
        obtain ⟨A', c', e, _, _, hr⟩ := HX.out W k
        injection e with e1 _ _
        subst e1
        obtain ⟨ad, rfl, _, _, _⟩ := hr (by omega)
        have hs := HX.out W k
        rw [h64] at hs
        refine (bad_any ad c _ _ bs W hs k.size h64).mono fun e w' hh => ?_
        obtain ⟨r, rfl, hr, kk⟩ := hh
        cases r with
        | true => exact ⟨rfl, kk⟩
        | false => exact absurd (hr rfl).is hi)
      rw [h64] at DB ⊢
      clear hi HX
      go_enter Try.func4, Try.ntmps4
      go_wp2_with fail
      refine (known11_any _).mono ?_
      rintro e w1 ⟨rfl, k1⟩
      have K1 := Lib.hid k1
      have D1 := Lib.hid (DB.out w1 k1)
      clear k1 DB
      go_wp2_with fail
      refine D1.out.mono ?_
      rintro e w2 ⟨rfl, k2⟩
      have X2 := Lib.hid (Has.new w2 26 zs)
      have X3 := Lib.hid (X2.out.setRow zs)
      have K3 : Hid (Still w ((w2.alloc (.cells zs 26)).setRow w2.heap.size zs)) := Lib.hid ((K1.out.trans k2).trans (Only.setRow ((Still.refl w2).alloc _) (fun h => absurd h (Nat.lt_irrefl _)) zs))
      clear k2 K1 D1
      go_wp2_with (first
        | (rw [← MZ.out]; refine store_struct Try.inoSize w2.heap.size zs (.tmp 3) (.tmp 12) rfl rfl rfl rfl X2.out ZZ.out ZZ.out OZ.out ?_)
        | (refine load_structG Try.underlying26 rfl Try.inoSize w2.heap.size zs (.tmp 3) rfl rfl rfl X3.out ZZ.out ?_)
        | fail)
      refine (HB.out _ K3.out).mono ?_
      rintro e w4 ⟨rfl, k4⟩
      have R := Lib.hid (K3.out.trans k4)
      clear k4 K3 HB X2 X3
      go_wp2
      go_ret
      exact ⟨rfl, R.out⟩
    · have d1 : decide ((bs.length : Int) = 64) = false := decide_eq_false (by omega)
      have d2 : ((bs.length : Int) != 64) = true := by simp; omega
      generalize bs.length = n at *
      clear hi HX h64
      go_enter Try.func4, Try.ntmps4
      go_wp2_with fail
      refine (known11_any _).mono ?_
      rintro e w1 ⟨rfl, k1⟩
      have K1 := Lib.hid k1
      have D1 := Lib.hid (DB.out w1 k1)
      clear k1 DB
      go_wp2_with fail
      refine D1.out.mono ?_
      rintro e w2 ⟨rfl, k2⟩
      have X2 := Lib.hid (Has.new w2 26 zs)
      have X3 := Lib.hid (X2.out.setRow zs)
      have K3 : Hid (Still w ((w2.alloc (.cells zs 26)).setRow w2.heap.size zs)) := Lib.hid ((K1.out.trans k2).trans (Only.setRow ((Still.refl w2).alloc _) (fun h => absurd h (Nat.lt_irrefl _)) zs))
      clear k2 K1 D1
      go_wp2_with (first
        | (rw [← MZ.out]; refine store_struct Try.inoSize w2.heap.size zs (.tmp 3) (.tmp 12) rfl rfl rfl rfl X2.out ZZ.out ZZ.out OZ.out ?_)
        | (refine load_structG Try.underlying26 rfl Try.inoSize w2.heap.size zs (.tmp 3) rfl rfl rfl X3.out ZZ.out ?_)
        | fail)
      have R := Lib.hid K3.out
      clear K3 X2 X3
      go_wp2
      go_ret
      exact ⟨rfl, R.out⟩
end Go.Proofs.Ytjlipfddbpgglaa
