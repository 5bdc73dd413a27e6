/-
  Layer 2's TextBytes: whatever bytes, it answers true and leaves what was there.
-/
import Derived.Test.YthfddmgphdklfaaDoorLaw2Known
import Derived.Test.YthfddmgphdklfaaDoorRefTextC
namespace Go.Proofs.YthfddmgphdklfaaDoor
open Go.RowKit Go.Lib
set_option maxRecDepth 100000

set_option maxHeartbeats 2000000 in
theorem tbytes_small (A : Option Addr) (c : Nat) (bs : List UInt8) (w : World) (hT : Tabs w) (hc : bs.length ≤ c) (hm : c ≤ maxLen) (hr : Rd w 0 w.heap.size A bs) (hb : bs.length ≤ 300) :
    Calls Tryd.prog 5 #[.slice A bs.length c] w fun e w' => e = .returned (.bool true) ∧ Below w.heap.size w w' := by
  have d1 : decide ((300 : Int) < (bs.length : Int)) = false := decide_eq_false (by omega)
  have HT := Lib.hid hT
  have hlt := tab_lt hT
  have C0 := Lib.hid (known2 w hT)
  have HS : Hid (∀ W, Below w.heap.size w W → SlIs W 0 w.heap.size (.slice A bs.length c) bs) := fun W k => ⟨A, c, rfl, hc, hm, hr.keep fun p _ hp => k.cell hp⟩
  have HRd : Hid (∀ W, Below w.heap.size w W → Rd W 0 w.heap.size A bs) := fun W k => hr.keep fun p _ hp => k.cell hp
  clear hT hr
  go_enter Tryd.func5, Tryd.ntmps5
  go_wp2_with fail
  refine C0.out.mono ?_
  rintro e w0 ⟨rfl, k0⟩
  have s0 := k0.size
  have C1 := Lib.hid (of_any _ bs 0 w.heap.size w0 (HS.out w0 k0) s0 (by omega))
  have K0 := Lib.hid k0
  clear C0 k0 HS
  go_wp2_with fail
  refine C1.out.mono ?_
  rintro e w1 ⟨g, rfl, i1, b1⟩
  have hg := i1.lt
  have k1 := K0.out.trans (b1.mono s0)
  have C2 := Lib.hid (ttake_any _ g bs 0 w1 i1 (HT.out.below k1) (by omega) (by omega) (by omega))
  have K1 := Lib.hid k1
  have s1 := b1.size
  clear i1 b1 k1 K0 C1
  go_wp2_with fail
  refine C2.out.mono ?_
  rintro e w2 ⟨rfl, i2, o2⟩
  have k2 : Below w.heap.size w w2 := K1.out.trans (o2.below (B := w.heap.size) (by omega) (fun i hi h => by omega))
  have s2 := o2.size
  have hr3 : RefAt (w2.alloc (.cells #[.slice A bs.length c, .int .i64 0, .int .i64 0] 45)) w.heap.size w2.heap.size bs 0 0 := by
    refine ⟨A, c, Has.new _ _ _, hc, hm, HRd.out _ (k2.alloc (by omega) _), by omega, Nat.zero_le _⟩
  have C3 := Lib.hid (reftext_any w.heap.size w2.heap.size bs _ hr3 (by omega))
  have K2 := Lib.hid k2
  have I2 := Lib.hid i2
  clear o2 i2 k2 hr3 K1 C2 HRd
  go_wp2_with fail
  refine C3.out.mono ?_
  rintro e w3 ⟨rfl, r3, o3⟩
  have k3 : Below w.heap.size w w3 := (K2.out.alloc (by omega) _).trans (o3.below (B := w.heap.size) (by simp; omega) (fun i hi h => by omega))
  have i3 := (I2.out.only ((Only.refl (fun _ => False) w2).alloc _) (fun _ _ _ h => h)).only o3 (fun i _ hi h => by omega)
  have K3 := Lib.hid k3
  have I3 := Lib.hid i3
  have R3 := Lib.hid r3
  have HQ : Hid ((tans bs 0).2 = 0 → (rst bs).2.2 = 0 ∧ (bs.length : Int) - (rst bs).2.1 = ((tst bs 0).2.1.length : Int)) := by
    intro h
    obtain ⟨q1, q2, q3, q4⟩ := rst_eq bs
    have h0 : (rst bs).2.2 = 0 := by
      rw [q2]
      refine Decidable.byContradiction fun hn => ?_
      rw [tans, if_pos hn] at h
      exact hn h
    exact ⟨h0, (q4 h0).2⟩
  clear k3 i3 r3 o3 K2 I2 C3
  generalize tans bs 0 = a at HQ ⊢
  obtain ⟨x, f⟩ := a
  simp only at HQ ⊢
  by_cases hf : f = 0
  · subst hf
    obtain ⟨z1, z2⟩ := HQ.out rfl
    have C4 := Lib.hid (left_any _ _ _ _ w3 I3.out)
    have C5 := Lib.hid (refleft_any _ _ _ _ _ w3 R3.out)
    rw [z1, if_neg (by simp), z2] at C5
    generalize (tst bs 0).2.1.length = L at C4 C5
    clear z1 z2 HQ I3 R3
    go_wp2_with fail
    refine C4.out.mono ?_
    rintro e w' ⟨rfl, rfl⟩
    go_wp2_with fail
    refine C5.out.mono ?_
    rintro e w' ⟨rfl, m, rfl⟩
    have R : Hid (Below w.heap.size w (w3.drewN m)) := below_drewN' K3.out m
    clear C4 C5 K3
    go_wp2
    go_ret
    exact ⟨rfl, R.out⟩
  · have hne : (f == 0) = false := by simpa using hf
    have hne2 : (f != 0) = true := by simpa using hf
    clear HQ I3 R3 hf
    go_wp2
    go_ret
    exact ⟨rfl, K3.out⟩

set_option maxHeartbeats 400000 in
theorem tbytes_big (A : Option Addr) (n c : Nat) (w : World) (hT : Tabs w) (h : 300 < n) :
    Calls Tryd.prog 5 #[.slice A n c] w fun e w' => e = .returned (.bool true) ∧ Below w.heap.size w w' := by
  have d1 : decide ((300 : Int) < (n : Int)) = true := decide_eq_true (by omega)
  have C0 := Lib.hid (known2 w hT)
  clear hT
  go_enter Tryd.func5, Tryd.ntmps5
  go_wp2_with fail
  refine C0.out.mono ?_
  rintro e w0 ⟨rfl, k0⟩
  have K0 := Lib.hid k0
  clear C0 k0
  go_wp2
  go_ret
  exact ⟨rfl, K0.out⟩
end Go.Proofs.YthfddmgphdklfaaDoor
