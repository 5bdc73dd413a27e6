/-
  The second reading's out: a record added.
-/
import Derived.Test.YtepiifbleoimkaaGreatDoorRefMsgA
namespace Go.Proofs.YtepiifbleoimkaaGreatDoor
open Go.RowKit
set_option maxRecDepth 100000
theorem ROutAt.sizeW {w : World} {B g : Nat} {v : Value} {bs : List UInt8} {bad : Int} (h : ROutAt w B g v bs bad) : B ≤ w.heap.size := Nat.le_trans h.low (Nat.le_of_lt h.has.lt)

/-- One step behind another. -/
theorem ROutStep.next {w w1 w2 : World} {B g : Nat} {v v1 : Value} {bs : List UInt8} {bad : Int} {e : Ending} (k : Only (Foot g v) w w1) (q : ∀ i, v1.ownBlock = some i → v.ownBlock = some i ∨ w.heap.size ≤ i) (st : ROutStep w1 B g v1 bs bad e w2) : ROutStep w B g v bs bad e w2 := by
  obtain ⟨v', he, o, f, p⟩ := st
  have := k.size
  refine ⟨v', he, o, k.trans f ?_, ?_⟩
  · intro i hi hf
    rcases hf with h | h
    · exact .inl h
    · rcases q i h with h | h
      · exact .inr h
      · omega
  · intro i hi
    rcases p i hi with h | h
    · exact q i h
    · exact .inr (by omega)

/-- What the second reading adds for a record. -/
def statR (s : S11) : List UInt8 := if wrongL s.texts = 0 then putB 2 s.size ++ recB s else putB 2 0

set_option maxHeartbeats 2000000 in
theorem rstat_any (B g : Nat) (v : Value) (bs : List UInt8) (bad : Int) (s : S11) (w : World) (h : ROutAt w B g v bs bad) (hn : s.Num) (hs : s.Few) (hl : bs.length ≤ 900000) :
    Calls Tryz.prog 49 #[.pointer (some ⟨g, 0, none⟩), s.val] w (ROutStep w B g v (bs ++ statR s) (nextBad bad (wrongL s.texts))) := by
  obtain ⟨i0, hi0, hz0, hz1, hz2⟩ := info_parts Tryz.info8
  obtain ⟨W, hW⟩ : ∃ W, W = w.alloc (.cells s.cells 41) := ⟨_, rfl⟩
  have k0 : Only (fun _ => False) w W := by rw [hW]; exact (Only.refl _ w).alloc _
  have n0 : Has W w.heap.size 41 s.cells := by rw [hW]; exact Has.new _ _ _
  obtain ⟨⟨d0, d1, d2, d3, d4⟩, ⟨d5, d6, d7, d8⟩, ⟨d9, d10, d11, d12⟩⟩ := n0.cells13
  have o0 := h.only k0 (fun _ _ h => h)
  have hft : ∀ i, Foot g v i → i < W.heap.size := fun i hi => (o0.foot_lt hi).2
  have C := refstat_any s W hn hs
  have hsz : s.size ≤ 5000 := by
    obtain ⟨hs1, hs2, hs3, hs4⟩ := hs
    unfold S11.size
    omega
  have N : Hid (∀ (w2 : World) (bad' : Int) (u : Value) (xs : List UInt8) (lo hi : Nat), ROutAt w2 B g v bs bad' → Only (Foot g v) w w2 → SlIs w2 lo hi u xs → hi ≤ w2.heap.size → (∀ i, lo ≤ i → ¬ Foot g v i) → xs.length ≤ 5000 →
      Calls Tryz.prog 46 #[.pointer (some ⟨g, 0, none⟩), .int .i64 2, .int .u64 (xs.length : Int)] w2 (fun e w3 => ∃ ys v3, Hid (ys = bs ++ putB 2 xs.length) ∧ e = .returned (.tuple #[]) ∧ ROutAt w3 B g v3 ys bad' ∧ Only (Foot g v) w w3 ∧ SlIs w3 lo hi u xs ∧ (∀ i, v3.ownBlock = some i → v.ownBlock = some i ∨ w.heap.size ≤ i) ∧ ys.length ≤ 900002)) := by
    intro w2 bad' u xs lo hi o2 k2 x2 hh far hx
    refine (rnum_any B g v bs bad' 2 (xs.length : Int) w2 o2 (by omega) (by omega)).mono ?_
    rintro e w3 ⟨v3, rfl, o3, k3, q3⟩
    have hp : putI 2 (xs.length : Int) = putB 2 xs.length := putI_of 2 xs.length (by decide) (by decide)
    rw [hp] at o3
    have := k2.size
    refine ⟨_, v3, Lib.hid rfl, rfl, o3, k2.trans k3 (fun _ _ h => h), x2.keep (k3.keeps hh (fun i hi _ h => far i hi h)), ?_, ?_⟩
    · intro i hi
      rcases q3 i hi with h | h
      · exact .inl h
      · exact .inr (by omega)
    · rw [List.length_append, putB_length]
      omega
  have K0 : Hid (Only (Foot g v) w W) := k0.mono (fun _ _ h => h.elim)
  have O0 := Lib.hid o0
  unfold S11.val at C ⊢
  unfold S11.cells at C hW ⊢
  unfold EncodeStep at C
  have C' := Lib.hid C
  rw [hW] at d0 d1 d2 d3 d4 d5 d6 d7 d8 d9 d10 d11 d12
  have HW := Lib.hid hW.symm
  clear h k0 n0 o0 C hW hn hs
  go_enter Tryz.func49, Tryz.ntmps49
  go_wp2_with fail
  rw [HW.out]
  refine C'.out.mono ?_
  clear C' HW d0 d1 d2 d3 d4 d5 d6 d7 d8 d9 d10 d11 d12
  rintro e w1 (⟨hz, u, rfl, ow, b1⟩ | ⟨hz, rfl, b1⟩)
  · have k1 := Below.onlyNew b1
    have O2 := Lib.hid (O0.out.only k1 (fun _ _ h => h))
    have K2 : Hid (Only (Foot g v) w w1) := K0.out.trans (k1.mono (fun _ _ h => h.elim)) (fun _ _ h => h)
    have S2 := Lib.hid (owns_SlIs ow)
    have hrl := recB_length hz
    have hx : IntKind.u64.wrap ((recB s).length : Int) = ((recB s).length : Int) := IntWalk.u64_in _ (by omega)
    have HN : Hid (nextBad bad (wrongL s.texts) = bad ∧ bs ++ statR s = (bs ++ putB 2 (recB s).length) ++ recB s) := by
      rw [statR, if_pos hz, hz, hrl]
      refine ⟨?_, by simp⟩
      unfold nextBad
      split <;> simp_all
    have HI : Hid (w1.heap.size ≤ w1.heap.size) := Nat.le_refl _
    have hle : (recB s).length ≤ 5000 := by omega
    obtain ⟨A1, c1, rfl, _⟩ := owns_slice ow
    clear ow b1 k1 O0 K0 hz hrl
    generalize recB s = xs at *
    go_wp2_with fail
    refine (N.out _ bad _ _ _ _ O2.out K2.out S2.out HI.out (fun i hi h => by have := hft i h; omega) (by omega)).mono ?_
    rintro e w3 ⟨ys, v3, HY, rfl, o3, k3, s3, q3, b3⟩
    have hc3 : w3.cell? ⟨g, 0, none⟩ = some v3 := by have := o3.has.cell 0; simpa using this
    have hb3 : B ≤ w3.heap.size := Nat.le_trans o3.low (Nat.le_of_lt o3.has.lt)
    have G3 := Lib.hid (fun (w4 : World) (v4 : Value) a b c => rout_grown (w1 := w3) (w2 := w4) (v' := v4) (bs' := ys ++ xs) o3 (Only.refl _ w3) a b c)
    have P3 := Lib.hid (And.intro k3 q3)
    have O3 := Lib.hid o3.own
    have S3 := Lib.hid s3
    obtain ⟨A3, c3, rfl, _⟩ := owns_slice o3.own
    clear o3 k3 s3 q3 N O2 K2 S2 HI
    go_wp2_with (at_builtin; go_must (refine wpList_append_bytes _ rfl (.tmp 33) (.tmp 34) 22 rfl B 5 i0 Tryz.underlying22 hi0 hz0 hz1 hz2 _ ys xs rfl O3.out _ _ _ rfl S3.out (by rw [List.length_append]; omega) (by omega) ?_))
    intro v4 w4 a4 g4 e4
    rw [← List.length_append] at a4
    obtain ⟨m4, r4⟩ := G3.out w4 v4 a4 g4 e4
    have hc4 : w4.cell? ⟨g, 0, none⟩ = _ := m4.cell 0
    have hf4 := m4.frozen 0
    obtain ⟨A4, c4, rfl, _⟩ := owns_slice a4
    have R := Lib.hid (ROutStep.next P3.out.1 P3.out.2 r4)
    clear a4 g4 e4 m4 r4 G3 P3 O3 S3 hc3
    go_wp2
    go_end0
    have r := R.out
    rw [HN.out.1, HN.out.2, ← HY.out]
    rw [List.length_append] at r
    exact r
  · have k1 := Below.onlyNew b1
    have o1 := O0.out.only k1 (fun _ _ h => h)
    have K1 : Hid (Only (Foot g v) w w1) := K0.out.trans (k1.mono (fun _ _ h => h.elim)) (fun _ _ h => h)
    have hd : (wrongL s.texts != 0) = true := by simpa using hz
    have HP : Hid (bs ++ statR s = bs ++ putB 2 ([] : List UInt8).length) := by
      rw [statR, if_neg hz]
      exact Lib.hid rfl
    have hc1 : w1.cell? ⟨g, 1, none⟩ = some (.int .i64 bad) := by have := o1.has.cell 1; simpa using this
    have hk1 := k1.size
    clear b1 k1 O0 K0
    by_cases hbd : bad = 0
    · subst hbd
      have o2 : ROutAt (w1.setCell ⟨g, 1, none⟩ (.int .i64 (wrongL s.texts))) B g v bs (wrongL s.texts) := by
        have hne : some g ≠ v.ownBlock := owns_ne o1.own o1.has (by decide)
        exact ⟨o1.has.set 1 _, owns_only o1.own ((Only.refl (fun i => i = g) w1).setCell (p := ⟨g, 1, none⟩) (fun _ => rfl) _) (fun i hi h => hne (by rw [← h, hi])), o1.low⟩
      have K2 : Hid (Only (Foot g v) w (w1.setCell ⟨g, 1, none⟩ (.int .i64 (wrongL s.texts)))) := K1.out.setCell (p := ⟨g, 1, none⟩) (fun _ => .inl rfl) _
      have hf1 := o1.has.frozen 1
      have O2 := Lib.hid o2
      have HI : Hid (W.heap.size ≤ (w1.setCell ⟨g, 1, none⟩ (.int .i64 (wrongL s.texts))).heap.size) := Lib.hid (by simpa [World.setCell] using hk1)
      have S2 := Lib.hid (sl_nil (w1.setCell ⟨g, 1, none⟩ (.int .i64 (wrongL s.texts))) W.heap.size W.heap.size)
      clear K1 o1 o2 hz
      go_wp2_with fail
      refine (N.out _ (wrongL s.texts) _ _ _ _ O2.out K2.out S2.out HI.out (fun i hi h => by have := hft i h; omega) (by simp)).mono ?_
      rintro e w3 ⟨ys, v3, HY, rfl, o3, k3, s3, q3, b3⟩
      have hc3 : w3.cell? ⟨g, 0, none⟩ = some v3 := by have := o3.has.cell 0; simpa using this
      have hb3 : B ≤ w3.heap.size := Nat.le_trans o3.low (Nat.le_of_lt o3.has.lt)
      have G3 := Lib.hid (fun (w4 : World) (v4 : Value) a b c => rout_grown (w1 := w3) (w2 := w4) (v' := v4) (bs' := ys) o3 (Only.refl _ w3) a b c)
      have P3 := Lib.hid (And.intro k3 q3)
      have O3 := Lib.hid o3.own
      have S3 := Lib.hid s3
      obtain ⟨A3, c3, rfl, _⟩ := owns_slice o3.own
      clear o3 k3 s3 q3 N O2 K2 S2 HI
      go_wp2_with (at_builtin; go_must (refine wpList_append_bytes _ rfl (.tmp 33) (.tmp 34) 22 rfl B 5 i0 Tryz.underlying22 hi0 hz0 hz1 hz2 _ ys (([] : List UInt8)) rfl O3.out _ _ _ rfl S3.out (by rw [List.append_nil]; omega) (by omega) ?_))
      intro v4 w4 a4 g4 e4
      obtain ⟨m4, r4⟩ := G3.out w4 v4 a4 g4 e4
      have hc4 : w4.cell? ⟨g, 0, none⟩ = _ := m4.cell 0
      have hf4 := m4.frozen 0
      obtain ⟨A4, c4, rfl, _⟩ := owns_slice a4
      have R := Lib.hid (ROutStep.next P3.out.1 P3.out.2 r4)
      clear a4 g4 e4 m4 r4 G3 P3 O3 S3 hc3
      go_wp2
      go_end0
      have r := R.out
      rw [HP.out, ← HY.out]
      exact r
    · have HN : Hid (nextBad bad (wrongL s.texts) = bad) := if_neg hbd
      have hd2 : (bad == 0) = false := by simpa using hbd
      have O2 := Lib.hid o1
      have K2 := K1
      have HI : Hid (W.heap.size ≤ w1.heap.size) := hk1
      have S2 := Lib.hid (sl_nil w1 W.heap.size W.heap.size)
      clear K1 o1 hz hbd
      go_wp2_with fail
      refine (N.out _ bad _ _ _ _ O2.out K2.out S2.out HI.out (fun i hi h => by have := hft i h; omega) (by simp)).mono ?_
      rintro e w3 ⟨ys, v3, HY, rfl, o3, k3, s3, q3, b3⟩
      have hc3 : w3.cell? ⟨g, 0, none⟩ = some v3 := by have := o3.has.cell 0; simpa using this
      have hb3 : B ≤ w3.heap.size := Nat.le_trans o3.low (Nat.le_of_lt o3.has.lt)
      have G3 := Lib.hid (fun (w4 : World) (v4 : Value) a b c => rout_grown (w1 := w3) (w2 := w4) (v' := v4) (bs' := ys) o3 (Only.refl _ w3) a b c)
      have P3 := Lib.hid (And.intro k3 q3)
      have O3 := Lib.hid o3.own
      have S3 := Lib.hid s3
      obtain ⟨A3, c3, rfl, _⟩ := owns_slice o3.own
      clear o3 k3 s3 q3 N O2 K2 S2 HI
      go_wp2_with (at_builtin; go_must (refine wpList_append_bytes _ rfl (.tmp 33) (.tmp 34) 22 rfl B 5 i0 Tryz.underlying22 hi0 hz0 hz1 hz2 _ ys (([] : List UInt8)) rfl O3.out _ _ _ rfl S3.out (by rw [List.append_nil]; omega) (by omega) ?_))
      intro v4 w4 a4 g4 e4
      obtain ⟨m4, r4⟩ := G3.out w4 v4 a4 g4 e4
      have hc4 : w4.cell? ⟨g, 0, none⟩ = _ := m4.cell 0
      have hf4 := m4.frozen 0
      obtain ⟨A4, c4, rfl, _⟩ := owns_slice a4
      have R := Lib.hid (ROutStep.next P3.out.1 P3.out.2 r4)
      clear a4 g4 e4 m4 r4 G3 P3 O3 S3 hc3
      go_wp2
      go_end0
      have r := R.out
      rw [HN.out, HP.out, ← HY.out]
      exact r
end Go.Proofs.YtepiifbleoimkaaGreatDoor
