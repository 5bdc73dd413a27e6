/-
  DiskPlays: any calls on a disk of any shape, as rows of sectors have them.
-/
import Derived.Test.YtddllgbficjaoaaLaw7PlayA
import Derived.Test.YtddllgbficjaoaaOpenActs
import Derived.Deep.CutRange
namespace Go.Proofs.Ytddllgbficjaoaa
open Go.RowKit Go.Lib
set_option maxRecDepth 100000

/-- The law's own disk while its sectors are laid. -/
def PSet (w1 : World) (gp z j : Nat) (kv : Value) (wr : World) : Prop :=
  Has wr gp 33 #[.int .i64 (z : Int), kv, .slice none 0 0, .slice none 0 0, .bool false, .int .i64 0, .slice none 0 0, .int .i64 0] ∧ wr.ownsRow w1.heap.size 9 1 kv j (List.replicate j (sv (List.replicate z 0))) ∧ Below w1.heap.size w1 wr
/-- Both, and how much was done. -/
structure PInv (w : World) (g gp : Nat) (s : D) (z j : Nat) (wr : World) : Prop where
  both : ∃ K, PIK w K g gp s s wr
  size : s.size = z
  pend : s.pend.length ≤ j
  writes : s.writes ≤ j
  armed : s.armed ≤ 9223372036854775807
theorem PInv.small {w wr : World} {g gp z j : Nat} {s : D} (h : PInv w g gp s z j wr) (hj : j ≤ 1000) : s.Small := ⟨by have := h.pend; omega, h.armed, by have := h.writes; omega⟩
theorem PSet.done {w w1 wr : World} {g gp z n : Nat} {kv : Value} (h : PSet w1 gp z n kv wr) (hl : Live w (fun _ => False) g (D.new z (List.replicate n (List.replicate z 0))) w1) (hg : gp = w1.heap.size) (hn : 1 ≤ n) :
    ∃ gk ck, kv = .slice (some ⟨gk, 0, none⟩) n ck ∧ PInv w g gp (D.new z (List.replicate n (List.replicate z 0))) z 0 (wr.setCell ⟨gp, 2, none⟩ kv) := by
  obtain ⟨h1, h2, h3⟩ := h
  obtain ⟨gk, ck, rfl, _⟩ := owns_some h2 (by omega)
  have hs := hl.low.size
  have hgk := h2.lt gk rfl
  have hne : gk ≠ gp := fun e => owns_ne h2 h1 (by decide) (by rw [e]; rfl)
  have hsz : (wr.setCell ⟨gp, 2, none⟩ (.slice (some ⟨gk, 0, none⟩) n ck)).heap.size = wr.heap.size := by simp [World.setCell]
  have hgl := h1.lt
  have k : Only (fun i => i = gp) wr (wr.setCell ⟨gp, 2, none⟩ (.slice (some ⟨gk, 0, none⟩) n ck)) := (Only.refl (fun i => i = gp) wr).setCell (p := ⟨gp, 2, none⟩) (fun _ => rfl) _
  have k1 : Only (fun _ => False) w1 (wr.setCell ⟨gp, 2, none⟩ (.slice (some ⟨gk, 0, none⟩) n ck)) := ⟨k.os.trans h3.os, k.tape.trans h3.tape, k.output.trans h3.output, Nat.le_trans h3.size k.size, fun i hi _ => (k.block i (Nat.lt_of_lt_of_le hi h3.size) (by omega)).trans (h3.block i hi)⟩
  have r : StrRow (wr.setCell ⟨gp, 2, none⟩ (.slice (some ⟨gk, 0, none⟩) n ck)) gk ck (List.replicate n (List.replicate z 0)) := by
    have := owns_only h2 k (fun i hi e => by
      have : gk = i := by simpa [Value.ownBlock] using hi
      omega)
    unfold StrRow
    rw [List.length_replicate, show svs (List.replicate n (List.replicate z 0)) = List.replicate n (sv (List.replicate z 0)) by simp [svs]]
    exact owns_base this (Nat.zero_le _)
  refine ⟨gk, ck, rfl, ⟨fun i => w1.heap.size ≤ i ∧ i < wr.heap.size, ?_, ?_, ⟨by omega, hgl⟩, by omega⟩, rfl, by simp [D.new], by simp [D.new], by simp [D.new]⟩
  · exact hl.more k1 (fun i hi => ⟨.inr hi.1, by rw [hsz]; exact hi.2⟩)
  · refine ⟨gk, ck, gk, ck, .slice none 0 0, .slice none 0 0, [], ⟨?_, r, r, World.ownsRow_nil _ _ _ _, RwIs.nil _ _, fun h => absurd h (by simp [D.new]), .inl ⟨hgk, hne⟩, .inl ⟨hgk, hne⟩, (fun i hi => by cases hi), fun i hi => ?_, hl.ok⟩⟩
    · have := h1.set 2 (.slice (some ⟨gk, 0, none⟩) n ck)
      simpa [D.new] using this
    · rcases hi with hi | hi
      · exact hi.2
      · omega

set_option maxHeartbeats 40000000 in
theorem plays_walk (n z : Nat) (A : Option Addr) (c : Nat) (xs : List A7) (w : World) (hA : ActsAt w A xs) (hn1 : 1 ≤ n) (hn : n ≤ 50) (hz1 : 64 ≤ z) (hz : z ≤ 1024) (hl : xs.length ≤ 60) :
    Calls Try.prog 3 #[.int .i64 (n : Int), .int .i64 (z : Int), .slice A xs.length c] w fun e w' => e = .returned (.bool true) ∧ Below w.heap.size w w' := by
  have C0 := Lib.hid (known7_any w)
  have HA := Lib.hid hA
  have d60 : decide (60 < xs.length) = false := decide_eq_false (by omega)
  have d60i : decide ((60 : Int) < (xs.length : Int)) = false := decide_eq_false (by omega)
  have d50 : decide (50 < n) = false := decide_eq_false (by omega)
  have d50i : decide ((50 : Int) < (n : Int)) = false := decide_eq_false (by omega)
  have o1 : decide ((1 : Int) ≤ (n : Int)) = true := decide_eq_true (by omega)
  have o2 : decide ((n : Int) ≤ 16384) = true := decide_eq_true (by omega)
  have o3 : decide ((64 : Int) ≤ (z : Int)) = true := decide_eq_true (by omega)
  have o4 : decide ((z : Int) ≤ 1024) = true := decide_eq_true (by omega)
  have p1 : (1 : Int) ≤ (n : Int) := by omega
  have p2 : (n : Int) ≤ 16384 := by omega
  have p3 : (64 : Int) ≤ (z : Int) := by omega
  have p4 : (z : Int) ≤ 1024 := by omega
  clear hA
  go_enter Try.func3, Try.ntmps3
  go_wp2_with fail
  refine C0.out.mono ?_
  rintro e w0 ⟨rfl, b0⟩
  have C1 := Lib.hid (disknew_any (n : Int) (z : Int) w0)
  have HB0 := Lib.hid b0
  clear C0 b0
  go_wp2_with fail
  refine C1.out.mono ?_
  intro e w1 hN
  rw [NewAns, if_pos (show mayB (n : Int) (z : Int) = true from decide_eq_true ⟨p1, p2, p3, p4⟩)] at hN
  obtain ⟨v, rfl, hm⟩ := hN
  obtain ⟨g, rfl, L0, _⟩ := Live.made HB0.out (K := fun _ => False) (fun _ h => h.elim) hm
  have HL : Hid (Live w (fun _ => False) g (D.new z (List.replicate n (List.replicate z 0))) w1) := L0
  obtain ⟨gp, hgp⟩ : ∃ gp, gp = w1.heap.size := ⟨_, rfl⟩
  have I0 : Hid (PSet w1 gp z 0 (.slice none 0 0) (w1.alloc (.cells #[.int .i64 (z : Int), .slice none 0 0, .slice none 0 0, .slice none 0 0, .bool false, .int .i64 0, .slice none 0 0, .int .i64 0] 33))) := by
    refine ⟨?_, World.ownsRow_nil _ _ _ _, (Below.refl _ w1).alloc (Nat.le_refl _) _⟩
    rw [hgp]
    exact Has.new _ _ _
  have HG := Lib.hid hgp
  clear L0 hm C1 HB0
  go_wp2_with fail
  rw [← hgp]
  clear hgp
  go_loopw [11] (fun u wr => ∃ (j : Nat), j ≤ n ∧ u = .int .i64 j ∧ Hid (∃ kv, PSet w1 gp z j kv wr)) (fun u _ => n - (RowKit.intOf u).toNat)
  case atStart => exact ⟨0, Nat.zero_le _, rfl, Lib.hid ⟨_, I0.out⟩⟩
  case round =>
    obtain ⟨j, hj, rfl, hrel⟩ := hrel
    clear I0
    obtain ⟨kv, hP⟩ := hrel.out
    have c1 := hP.1.cell 1
    simp at c1
    obtain ⟨Ak, nk, ck, rfl⟩ := owns_form hP.2.1
    by_cases hlt : j < n
    · have dj : decide (j < n) = true := decide_eq_true hlt
      obtain ⟨i0, hi0, hz0, hz1', hz2⟩ := info_parts Try.infoStr
      have hgw := hP.1.lt
      have hbs := hP.2.2.size
      obtain ⟨w2, hmk, om, k2, s2⟩ := make_bytes z (by omega) wr.drew
      have hmk' : (Instr.makeSlice 34 (.int .i64 (z : Int)) (.int .i64 (z : Int))).run Try.prog wr.drew = .ok (.slice (some ⟨wr.heap.size, 0, none⟩) z z) w2 := hmk
      have hst : (convert 34 9 (.slice (some ⟨wr.heap.size, 0, none⟩) z z)).run Try.prog w2 = .ok (.string (strOf (List.replicate z 0))) w2 := by
        have h3 := owns_SlIs (bs := List.replicate z 0) (by rw [List.length_replicate]; exact om)
        exact run_str _ _ _ _ _ h3
      obtain ⟨W, hW⟩ : ∃ W, W = w2.alloc (.cells #[.string (strOf (List.replicate z 0))] 9) := ⟨_, rfl⟩
      have kW : Only (fun _ => False) wr W := by
        rw [hW]
        exact (((Only.refl (fun _ => False) wr).drew).trans k2 (fun _ _ h => h)).alloc _
      have cw2 : w2.cell? ⟨gp, 1, none⟩ = some (.slice Ak nk ck) := (k2.cell (p := ⟨gp, 1, none⟩) hgw (fun h => h)).trans c1
      have cW : W.cell? ⟨gp, 1, none⟩ = some (.slice Ak nk ck) := (kW.cell (p := ⟨gp, 1, none⟩) hgw (fun h => h)).trans c1
      have oW := owns_only hP.2.1 kW (fun _ _ h => h)
      have hne : some gp ≠ (Value.slice Ak nk ck).ownBlock := owns_ne hP.2.1 hP.1 (by decide)
      have vW : VsIs W (.slice (some ⟨w2.heap.size, 0, none⟩) 1 1) [.string (strOf (List.replicate z 0))] := by
        rw [hW]
        exact VsIs.one w2 _ _
      have ST : Hid (∀ v' w3, w3.ownsRow w1.heap.size 9 1 v' (List.replicate j (sv (List.replicate z 0)) ++ [Value.string (strOf (List.replicate z 0))]).length (List.replicate j (sv (List.replicate z 0)) ++ [.string (strOf (List.replicate z 0))]) → W.grownBy w3 (Value.slice Ak nk ck).ownBlock →
          (w3.cell? ⟨gp, 1, none⟩ = some (.slice Ak nk ck) ∧ w3.frozen? ⟨gp, 1, none⟩ = false) ∧ PSet w1 gp z (j + 1) v' (w3.setCell ⟨gp, 1, none⟩ v')) := fun v' w3 a1 a2 => by
        have hs0 := hP.2.2.size
        have hsW := kW.size
        have k3 : Only (fun i => some i = (Value.slice Ak nk ck).ownBlock) W w3 := Only.of_grown a2
        have hb3 := (hP.1.only kW (fun h => h)).only k3 hne
        have e1 := hb3.cell 1
        refine ⟨⟨by simpa using e1, hb3.frozen 1⟩, hb3.set 1 v', ?_, ?_⟩
        · rw [List.length_append, List.length_replicate, List.length_singleton] at a1
          rw [List.replicate_succ']
          refine owns_only a1 (S := fun i => i = gp) ((Only.refl (fun i => i = gp) w3).setCell (p := ⟨gp, 1, none⟩) (fun _ => rfl) _) (fun i hi e => ?_)
          have := owns_ne a1 hb3 (by decide)
          rw [hi, e] at this
          exact this rfl
        · have bW : Below w1.heap.size w1 W := hP.2.2.trans (kW.below hs0 (fun _ _ h => h))
          have b3 : Below w1.heap.size w1 w3 := bW.grown a2 (by omega) (fun i hi => (hP.2.1.lt i hi).1)
          have hgp' := HG.out
          exact b3.trans (Only.below ((Only.refl (fun i => i = gp) w3).setCell (p := ⟨gp, 1, none⟩) (fun _ => rfl) _) b3.size (fun i hi e => by omega))
      have OW := Lib.hid oW
      have VW := Lib.hid vW
      have HW := Lib.hid hW
      have hbW : w1.heap.size ≤ W.heap.size := by have := kW.size; omega
      have hsz2 : gp < w2.heap.size := Nat.lt_of_lt_of_le hgw k2.size
      clear om k2 s2 hmk kW oW vW hW hrel hP hne
      go_upto_region 15 with fail
      refine wp_region_held_drew (S := fun _ => True) (by kernel_rfl) trivial (fun hHeld => ?_)
      refine takeH (i := 0) (d := 72) (v := ?_) (by kernel_rfl) (by kernel_rfl) (by kernel_rfl) rfl (fun _ _ _ h => h) (by rfl) ?_ hHeld ?_
      rotate_left
      · intro o ho w hSw
        cases ho
        go_simp
        try with_reducible rfl
      simp only [Act.put, List.setIfInBounds_toArray, List.set_cons_zero, List.set_cons_succ]
      refine takeH (i := 1) (d := 73) (v := ?_) (by kernel_rfl) (by kernel_rfl) (by kernel_rfl) rfl (fun _ _ _ h => h) (by rfl) ?_ hHeld ?_
      rotate_left
      · intro o ho w hSw
        cases ho
        go_simp
        try with_reducible rfl
      simp only [Act.put, List.setIfInBounds_toArray, List.set_cons_zero, List.set_cons_succ]
      refine takeH (i := 2) (d := 74) (v := ?_) (by kernel_rfl) (by kernel_rfl) (by kernel_rfl) rfl (fun _ _ _ h => h) (by rfl) ?_ hHeld ?_
      rotate_left
      · intro o ho w hSw
        cases ho
        go_simp
        try with_reducible rfl
      simp only [Act.put, List.setIfInBounds_toArray, List.set_cons_zero, List.set_cons_succ]
      refine takeH (i := 3) (d := 75) (v := ?_) (by kernel_rfl) (by kernel_rfl) (by kernel_rfl) rfl (fun _ _ _ h => h) (by rfl) ?_ hHeld ?_
      rotate_left
      · intro o ho w hSw
        cases ho
        go_simp
        try with_reducible rfl
      simp only [Act.put, List.setIfInBounds_toArray, List.set_cons_zero, List.set_cons_succ]
      refine takeH (i := 5) (d := 77) (v := ?_) (by kernel_rfl) (by kernel_rfl) (by kernel_rfl) rfl (fun _ _ _ h => h) (by rfl) ?_ hHeld ?_
      rotate_left
      · intro o ho w hSw
        cases ho
        go_simp
        try with_reducible rfl
      simp only [Act.put, List.setIfInBounds_toArray, List.set_cons_zero, List.set_cons_succ]
      refine wpAnyH_ready (rs := [4, 6]) (by kernel_rfl) (by simp) ?_
      refine AllReadyH.cons rfl (fun K hK => ?_) (AllReadyH.cons rfl (fun K hK => ?_) AllReadyH.nil)
      · go_simp
        refine hK.out _ _ trivial (fun hHeld => ?_)
        clear hK K
        refine wpAnyH_ready (rs := [6]) (by kernel_rfl) (by simp) ?_
        refine AllReadyH.cons rfl (fun K hK => ?_) AllReadyH.nil
        go_simp
        refine hK.out _ _ trivial (fun hHeld => ?_)
        clear hK K
        refine wpAnyH_ready (rs := [7]) (by kernel_rfl) (by simp) ?_
        refine AllReadyH.cons rfl (fun K hK => ?_) AllReadyH.nil
        go_simp
        refine hK.out _ _ trivial (fun hHeld => ?_)
        clear hK K
        refine wpAnyH_ready (rs := [8]) (by kernel_rfl) (by simp) ?_
        refine AllReadyH.cons rfl (fun K hK => ?_) AllReadyH.nil
        go_simp
        refine hK.out _ _ trivial (fun hHeld => ?_)
        clear hK K
        rw [← HW.out]
        refine wpAnyH_ready (rs := [9]) (by kernel_rfl) (by simp) ?_
        refine AllReadyH.cons rfl (fun K hK => ?_) AllReadyH.nil
        refine step_append_vals _ (by rfl) _ _ _ (by rfl) w1.heap.size 9 i0 _ 16 Try.underlying29 hi0 hz0 hz1' hz2 rfl _ (List.replicate j (sv (List.replicate z 0))) [.string (strOf (List.replicate z 0))] (by rfl) (by rw [List.length_replicate]; exact OW.out) _ (by rfl) VW.out (by simp [Value.oneCell']) (by simp; omega) (by simp [maxLen]; omega) hbW ?_
        intro v' w3 a1 a2 _
        obtain ⟨⟨e1, f1⟩, R⟩ := ST.out v' w3 a1 a2
        obtain ⟨Av, nv, cv, rfl⟩ := owns_form a1
        have HR := Lib.hid R
        clear a1 a2 R ST
        refine hK.out _ _ trivial (fun hHeld => ?_)
        clear hK K
        simp only [Act.put, List.setIfInBounds_toArray]
        refine takeH (i := 10) (d := 82) (v := ?_) (by kernel_rfl) (by kernel_rfl) (by kernel_rfl) rfl (fun _ _ _ h => h) (by rfl) ?_ hHeld ?_
        rotate_left
        · intro o ho w hSw
          cases ho
          go_simp
          try with_reducible rfl
        simp only [Act.put]
        refine takeH (i := 11) (d := 83) (v := ?_) (by kernel_rfl) (by kernel_rfl) (by kernel_rfl) rfl (fun _ _ _ h => h) (by rfl) ?_ hHeld ?_
        rotate_left
        · intro o ho w hSw
          cases ho
          go_simp
          try with_reducible rfl
        simp only [Act.put]
        refine wpAnyH_ready (rs := [12]) (by kernel_rfl) (by simp) ?_
        refine AllReadyH.cons rfl (fun K hK => ?_) AllReadyH.nil
        go_simp
        refine hK.out _ _ trivial (fun hHeld => ?_)
        clear hK K
        refine wpAnyH_done (by kernel_rfl) ?_ _
        clear OW VW HW
        go_wp2
        go_roundw
        case rel => exact ⟨j + 1, by omega, by go_num, Lib.hid ⟨_, HR.out⟩⟩
        case measure => simp [RowKit.intOf]; omega
      · go_simp
        refine hK.out _ _ trivial (fun hHeld => ?_)
        clear hK K
        refine wpAnyH_ready (rs := [4, 7]) (by kernel_rfl) (by simp) ?_
        refine AllReadyH.cons rfl (fun K hK => ?_) (AllReadyH.cons rfl (fun K hK => ?_) AllReadyH.nil)
        · go_simp
          refine hK.out _ _ trivial (fun hHeld => ?_)
          clear hK K
          refine wpAnyH_ready (rs := [7]) (by kernel_rfl) (by simp) ?_
          refine AllReadyH.cons rfl (fun K hK => ?_) AllReadyH.nil
          go_simp
          refine hK.out _ _ trivial (fun hHeld => ?_)
          clear hK K
          refine wpAnyH_ready (rs := [8]) (by kernel_rfl) (by simp) ?_
          refine AllReadyH.cons rfl (fun K hK => ?_) AllReadyH.nil
          go_simp
          refine hK.out _ _ trivial (fun hHeld => ?_)
          clear hK K
          rw [← HW.out]
          refine wpAnyH_ready (rs := [9]) (by kernel_rfl) (by simp) ?_
          refine AllReadyH.cons rfl (fun K hK => ?_) AllReadyH.nil
          refine step_append_vals _ (by rfl) _ _ _ (by rfl) w1.heap.size 9 i0 _ 16 Try.underlying29 hi0 hz0 hz1' hz2 rfl _ (List.replicate j (sv (List.replicate z 0))) [.string (strOf (List.replicate z 0))] (by rfl) (by rw [List.length_replicate]; exact OW.out) _ (by rfl) VW.out (by simp [Value.oneCell']) (by simp; omega) (by simp [maxLen]; omega) hbW ?_
          intro v' w3 a1 a2 _
          obtain ⟨⟨e1, f1⟩, R⟩ := ST.out v' w3 a1 a2
          obtain ⟨Av, nv, cv, rfl⟩ := owns_form a1
          have HR := Lib.hid R
          clear a1 a2 R ST
          refine hK.out _ _ trivial (fun hHeld => ?_)
          clear hK K
          simp only [Act.put, List.setIfInBounds_toArray]
          refine takeH (i := 10) (d := 82) (v := ?_) (by kernel_rfl) (by kernel_rfl) (by kernel_rfl) rfl (fun _ _ _ h => h) (by rfl) ?_ hHeld ?_
          rotate_left
          · intro o ho w hSw
            cases ho
            go_simp
            try with_reducible rfl
          simp only [Act.put]
          refine takeH (i := 11) (d := 83) (v := ?_) (by kernel_rfl) (by kernel_rfl) (by kernel_rfl) rfl (fun _ _ _ h => h) (by rfl) ?_ hHeld ?_
          rotate_left
          · intro o ho w hSw
            cases ho
            go_simp
            try with_reducible rfl
          simp only [Act.put]
          refine wpAnyH_ready (rs := [12]) (by kernel_rfl) (by simp) ?_
          refine AllReadyH.cons rfl (fun K hK => ?_) AllReadyH.nil
          go_simp
          refine hK.out _ _ trivial (fun hHeld => ?_)
          clear hK K
          refine wpAnyH_done (by kernel_rfl) ?_ _
          clear OW VW HW
          go_wp2
          go_roundw
          case rel => exact ⟨j + 1, by omega, by go_num, Lib.hid ⟨_, HR.out⟩⟩
          case measure => simp [RowKit.intOf]; omega
        · go_simp
          refine hK.out _ _ trivial (fun hHeld => ?_)
          clear hK K
          refine wpAnyH_ready (rs := [4, 8]) (by kernel_rfl) (by simp) ?_
          refine AllReadyH.cons rfl (fun K hK => ?_) (AllReadyH.cons rfl (fun K hK => ?_) AllReadyH.nil)
          · go_simp
            refine hK.out _ _ trivial (fun hHeld => ?_)
            clear hK K
            refine wpAnyH_ready (rs := [8]) (by kernel_rfl) (by simp) ?_
            refine AllReadyH.cons rfl (fun K hK => ?_) AllReadyH.nil
            go_simp
            refine hK.out _ _ trivial (fun hHeld => ?_)
            clear hK K
            rw [← HW.out]
            refine wpAnyH_ready (rs := [9]) (by kernel_rfl) (by simp) ?_
            refine AllReadyH.cons rfl (fun K hK => ?_) AllReadyH.nil
            refine step_append_vals _ (by rfl) _ _ _ (by rfl) w1.heap.size 9 i0 _ 16 Try.underlying29 hi0 hz0 hz1' hz2 rfl _ (List.replicate j (sv (List.replicate z 0))) [.string (strOf (List.replicate z 0))] (by rfl) (by rw [List.length_replicate]; exact OW.out) _ (by rfl) VW.out (by simp [Value.oneCell']) (by simp; omega) (by simp [maxLen]; omega) hbW ?_
            intro v' w3 a1 a2 _
            obtain ⟨⟨e1, f1⟩, R⟩ := ST.out v' w3 a1 a2
            obtain ⟨Av, nv, cv, rfl⟩ := owns_form a1
            have HR := Lib.hid R
            clear a1 a2 R ST
            refine hK.out _ _ trivial (fun hHeld => ?_)
            clear hK K
            simp only [Act.put, List.setIfInBounds_toArray]
            refine takeH (i := 10) (d := 82) (v := ?_) (by kernel_rfl) (by kernel_rfl) (by kernel_rfl) rfl (fun _ _ _ h => h) (by rfl) ?_ hHeld ?_
            rotate_left
            · intro o ho w hSw
              cases ho
              go_simp
              try with_reducible rfl
            simp only [Act.put]
            refine takeH (i := 11) (d := 83) (v := ?_) (by kernel_rfl) (by kernel_rfl) (by kernel_rfl) rfl (fun _ _ _ h => h) (by rfl) ?_ hHeld ?_
            rotate_left
            · intro o ho w hSw
              cases ho
              go_simp
              try with_reducible rfl
            simp only [Act.put]
            refine wpAnyH_ready (rs := [12]) (by kernel_rfl) (by simp) ?_
            refine AllReadyH.cons rfl (fun K hK => ?_) AllReadyH.nil
            go_simp
            refine hK.out _ _ trivial (fun hHeld => ?_)
            clear hK K
            refine wpAnyH_done (by kernel_rfl) ?_ _
            clear OW VW HW
            go_wp2
            go_roundw
            case rel => exact ⟨j + 1, by omega, by go_num, Lib.hid ⟨_, HR.out⟩⟩
            case measure => simp [RowKit.intOf]; omega
          · go_simp
            refine hK.out _ _ trivial (fun hHeld => ?_)
            clear hK K
            refine wpAnyH_ready (rs := [4]) (by kernel_rfl) (by simp) ?_
            refine AllReadyH.cons rfl (fun K hK => ?_) AllReadyH.nil
            go_simp
            refine hK.out _ _ trivial (fun hHeld => ?_)
            clear hK K
            rw [← HW.out]
            refine wpAnyH_ready (rs := [9]) (by kernel_rfl) (by simp) ?_
            refine AllReadyH.cons rfl (fun K hK => ?_) AllReadyH.nil
            refine step_append_vals _ (by rfl) _ _ _ (by rfl) w1.heap.size 9 i0 _ 16 Try.underlying29 hi0 hz0 hz1' hz2 rfl _ (List.replicate j (sv (List.replicate z 0))) [.string (strOf (List.replicate z 0))] (by rfl) (by rw [List.length_replicate]; exact OW.out) _ (by rfl) VW.out (by simp [Value.oneCell']) (by simp; omega) (by simp [maxLen]; omega) hbW ?_
            intro v' w3 a1 a2 _
            obtain ⟨⟨e1, f1⟩, R⟩ := ST.out v' w3 a1 a2
            obtain ⟨Av, nv, cv, rfl⟩ := owns_form a1
            have HR := Lib.hid R
            clear a1 a2 R ST
            refine hK.out _ _ trivial (fun hHeld => ?_)
            clear hK K
            simp only [Act.put, List.setIfInBounds_toArray]
            refine takeH (i := 10) (d := 82) (v := ?_) (by kernel_rfl) (by kernel_rfl) (by kernel_rfl) rfl (fun _ _ _ h => h) (by rfl) ?_ hHeld ?_
            rotate_left
            · intro o ho w hSw
              cases ho
              go_simp
              try with_reducible rfl
            simp only [Act.put]
            refine takeH (i := 11) (d := 83) (v := ?_) (by kernel_rfl) (by kernel_rfl) (by kernel_rfl) rfl (fun _ _ _ h => h) (by rfl) ?_ hHeld ?_
            rotate_left
            · intro o ho w hSw
              cases ho
              go_simp
              try with_reducible rfl
            simp only [Act.put]
            refine wpAnyH_ready (rs := [12]) (by kernel_rfl) (by simp) ?_
            refine AllReadyH.cons rfl (fun K hK => ?_) AllReadyH.nil
            go_simp
            refine hK.out _ _ trivial (fun hHeld => ?_)
            clear hK K
            refine wpAnyH_done (by kernel_rfl) ?_ _
            clear OW VW HW
            go_wp2
            go_roundw
            case rel => exact ⟨j + 1, by omega, by go_num, Lib.hid ⟨_, HR.out⟩⟩
            case measure => simp [RowKit.intOf]; omega
    · have hje : j = n := by omega
      subst hje
      have dj : decide (j < j) = false := decide_eq_false (by omega)
      have c2 := hP.1.cell 2
      have f2 := hP.1.frozen 2
      simp at c2
      obtain ⟨gk, ck', hke, hI⟩ := hP.done HL.out HG.out hn1
      have J0 := Lib.hid hI
      clear hP hrel hI hke
      go_wp2_with fail
      clear c1 c2 f2 HL HG dj o1 o2 o3 o4 p1 p2 p3 p4 d50 d50i d60 d60i
      go_loopw [7, 12] (fun dv iv wr => ∃ (q g : Nat) (s : D), q ≤ xs.length ∧ dv = .pointer (some ⟨g, 0, none⟩) ∧ iv = .int .i64 q ∧ Hid (PInv w g gp s z q wr)) (fun _ iv _ => xs.length - (RowKit.intOf iv).toNat)
      case atStart => exact ⟨0, g, _, Nat.zero_le _, rfl, rfl, J0⟩
      case round =>
        obtain ⟨q, g, s, hq, rfl, rfl, hrel⟩ := hrel
        clear J0
        by_cases hlt : q < xs.length
        · obtain ⟨ad, rfl, hadl, hact⟩ := HA.out (by omega)
          have ha := hact q hlt
          generalize xs[q] = a at ha
          obtain ⟨op, sec, an, Ab, cb, b, bad, Ak, ck, keep⟩ := a
          have hI := hrel.out
          obtain ⟨K, hK⟩ := hI.both
          have low := hK.live.low
          have hsm := hI.small (by omega)
          have hpb : (ad.add (q * 6)).block < w.heap.size := by rw [addr_block]; exact hadl
          have a0 := (World.cell?_of_block (low.block _ hpb) (a := ad.add (q * 6))).trans ha.c0
          have a1 := (World.cell?_of_block (low.block _ hpb) (a := ⟨(ad.add (q * 6)).block, (ad.add (q * 6)).off + 1, none⟩)).trans ha.c1
          have a2 := (World.cell?_of_block (low.block _ hpb) (a := ⟨(ad.add (q * 6)).block, (ad.add (q * 6)).off + 2, none⟩)).trans ha.c2
          have a3 := (World.cell?_of_block (low.block _ hpb) (a := ⟨(ad.add (q * 6)).block, (ad.add (q * 6)).off + 3, none⟩)).trans ha.c3
          have a4 := (World.cell?_of_block (low.block _ hpb) (a := ⟨(ad.add (q * 6)).block, (ad.add (q * 6)).off + 4, none⟩)).trans ha.c4
          have a5 := (World.cell?_of_block (low.block _ hpb) (a := ⟨(ad.add (q * 6)).block, (ad.add (q * 6)).off + 5, none⟩)).trans ha.c5
          simp only at a0 a1 a2 a3 a4 a5
          obtain ⟨W, hW⟩ : ∃ W, W = wr.alloc (.cells #[.int .i64 op, .int .i64 sec, .int .i64 an, .slice Ab b.length cb, .bool bad, .slice Ak keep.length ck] 36) := ⟨_, rfl⟩
          have kW : Only (fun _ => False) wr W := by rw [hW]; exact (Only.refl _ wr).alloc _
          have hB : Has W wr.heap.size 36 #[.int .i64 op, .int .i64 sec, .int .i64 an, .slice Ab b.length cb, .bool bad, .slice Ak keep.length ck] := by rw [hW]; exact Has.new _ _ _
          have hPW := hK.more kW
          have x0 := hB.cell 0
          have x1 := hB.cell 1
          have x2 := hB.cell 2
          have x3 := hB.cell 3
          have x4 := hB.cell 4
          have x5 := hB.cell 5
          simp at x0 x1 x2 x3 x4 x5
          have lowW := hPW.live.low
          have kX : ∀ W', Below w.heap.size w W' → RwIs W' (fun i => i < w.heap.size) keep.length (.slice Ak keep.length ck) (bvs keep) := fun W' hb => by
            obtain ⟨A', c', e, r⟩ := ha.hk
            refine ⟨A', c', e, fun hn => ?_⟩
            obtain ⟨ad', r1, r2, r3, r4⟩ := r hn
            exact ⟨ad', r1, r2, Nat.lt_of_lt_of_le r3 hb.size, fun j u hu => (World.cell?_of_block (hb.block _ (by rw [addr_block]; exact r2))).trans (r4 j u hu)⟩
          have bX : ∀ W', Below w.heap.size w W' → SlIs W' 0 w.heap.size (.slice Ab b.length cb) b := fun W' hb => by
            obtain ⟨A', c', e, r1, r2, r3⟩ := ha.hb
            exact ⟨A', c', e, r1, r2, r3.keep fun p _ hp => World.cell?_of_block (hb.block _ hp)⟩
          have han := ha.hn
          have hgpl := hPW.pl.lt
          have hgpw := hK.pl.lt
          have hbxl := hB.lt
          have HP := Lib.hid hPW
          have HKX := Lib.hid kX
          have HBX := Lib.hid bX
          have HB := Lib.hid hB
          have HW := Lib.hid hW
          have HI := Lib.hid hI
          have SM := Lib.hid hsm
          have hKbx : Hid ((fun i => K i ∨ (wr.heap.size ≤ i ∧ i < W.heap.size)) wr.heap.size) := .inr ⟨Nat.le_refl _, hbxl⟩
          have i0 : (0 : Int) ≤ (q : Int) := by omega
          have i1 : (q : Int) < (xs.length : Int) := by omega
          have dq : decide (q < xs.length) = true := decide_eq_true hlt
          have RW := Lib.hid lowW
          have hwl := lowW.size
          have hgl0 := hK.low
          clear ha hact hI hK low hsm hpb kW hB hPW lowW kX bX hW hrel
          generalize (fun i => K i ∨ (wr.heap.size ≤ i ∧ i < W.heap.size)) = K1 at HP hKbx
          clear K
          go_upto_region 21 with fail
          rw [← HW.out]
          clear HW a0 a1 a2 a3 a4 a5
          by_cases hk100 : 100 < keep.length
          · have dk : decide (100 < keep.length) = true := decide_eq_true hk100
            have dki : decide ((100 : Int) < (keep.length : Int)) = true := decide_eq_true (by omega)
            have dkp : (100 : Int) < (keep.length : Int) := by omega
            clear HP HKX HBX HB HI SM hKbx
            go_wp2
            go_ret
            exact ⟨rfl, RW.out⟩
          · have dk : decide (100 < keep.length) = false := decide_eq_false hk100
            have dki : decide ((100 : Int) < (keep.length : Int)) = false := decide_eq_false (by omega)
            by_cases e1 : op = 1
            · subst e1
              cases bad with
              | true =>
                have hKB := hKbx.out
                obtain ⟨w2, hmk, om, k2, s2⟩ := make_bytes z (by omega) W
                have b2 : Below w.heap.size w w2 := RW.out.trans (k2.below RW.out.size (fun _ _ h => h))
                have t3 : w2.cell? ⟨wr.heap.size, 3, none⟩ = some (.slice Ab b.length cb) := (k2.cell (p := ⟨wr.heap.size, 3, none⟩) hbxl (fun h => h)).trans x3
                obtain ⟨m, w3, hcp, o3, k3⟩ := copy_bytes om (HBX.out w2 b2)
                have k23 : Only (fun _ => False) W w3 := by
                  have q := k2.size
                  exact ⟨k3.os.trans k2.os, k3.tape.trans k2.tape, k3.output.trans k2.output, Nat.le_trans k2.size k3.size, fun i hi _ => (k3.block i (by omega) (by omega)).trans (k2.block i hi (fun h => h))⟩
                have t4 : w3.cell? ⟨wr.heap.size, 4, none⟩ = some (.bool true) := (k23.cell (p := ⟨wr.heap.size, 4, none⟩) hbxl (fun h => h)).trans x4

                obtain ⟨i0', hi0, hz0', hz1'', hz2'⟩ := info_parts Try.info8
                have kA : Only (fun _ => False) w3 (w3.alloc (.cells #[.int .u8 0] 5)) := (Only.refl _ w3).alloc _
                have OA : Hid ((w3.alloc (.cells #[.int .u8 0] 5)).ownsRow W.heap.size 5 1 (.slice (some ⟨W.heap.size, 0, none⟩) z z) (cpy z b).length (b8s (cpy z b))) := by
                  rw [cpy_length]
                  exact owns_only o3 kA (fun _ _ h => h)
                have LA : Hid (SlIs (w3.alloc (.cells #[.int .u8 0] 5)) w3.heap.size (w3.heap.size + 1) (.slice (some ⟨w3.heap.size, 0, none⟩) 1 1) [0]) := lit_SlIs w3 5 (0, 0) [0] 1 rfl (by simp [maxLen])
                have K3 := Lib.hid k23
                have hcl := cpy_length z b
                have hs3 := k23.size
                clear om k2 k3 s2 b2 o3 kA k23
                go_wp2_with (at_builtin; go_must (refine wpList_append_bytes _ rfl (.tmp 117) (.tmp 118) 34 rfl W.heap.size 5 i0' Try.underlying34 hi0 hz0' hz1'' hz2' _ (cpy z b) [0] rfl OA.out _ _ _ rfl LA.out (by simp [hcl]; omega) (by simp; omega) ?_))
                intro v5 w5 o5 g5 _
                have k5 : Only (fun _ => False) W w5 := by
                  have bA : Below W.heap.size W w5 := (((K3.out.below (Nat.le_refl _) (fun _ _ h => h)).alloc hs3 _)).grown g5 (by simp; omega) (fun i hi => by
                    have : W.heap.size = i := by simpa [Value.ownBlock] using hi
                    omega)
                  exact ⟨bA.os, bA.tape, bA.output, bA.size, fun i hi _ => bA.block i hi⟩
                have s5 := owns_SlIs (bs := cpy z b ++ [0]) (by rw [List.length_append, cpy_length]; exact o5)
                obtain ⟨A5, c5', e5, _⟩ := id s5
                rw [List.length_append, cpy_length] at e5
                have e5' : v5 = .slice A5 (z + 1) c5' := e5
                subst e5'
                clear OA LA K3 g5 o5 e5

                have H5 := HP.out.more (k5.drew)
                have hs5 := k5.size
                have SH : Hid (∀ W', Only (fun i => (¬ (K1 i ∨ (W.heap.size ≤ i ∧ i < w5.drew.heap.size)) ∧ w.heap.size ≤ i) ∨ i = gp) w5.drew W' → W'.cell? ⟨wr.heap.size, 1, none⟩ = some (.int .i64 sec) ∧ (convert 34 9 (.slice A5 (z + 1) c5')).run Try.prog W' = .ok (.string (strOf (cpy z b ++ [0]))) W') := fun W' kk => by
                  have hz5 : w5.drew.heap.size = w5.heap.size := rfl
                  refine ⟨(kk.cell (p := ⟨wr.heap.size, 1, none⟩) (Nat.lt_of_lt_of_le hbxl hs5) (fun h => ?_)).trans ((k5.cell (p := ⟨wr.heap.size, 1, none⟩) hbxl (fun h => h)).trans x1), run_str _ _ _ _ _ (SlIs.only (a := w5.drew) s5 kk (Nat.le_refl _) (fun i h1 h2 h => ?_))⟩
                  · rcases h with h | h
                    · exact h.1 (.inl hKB)
                    · simp at h
                      omega
                  · rcases h with h | h
                    · exact h.1 (.inr ⟨h1, h2⟩)
                    · omega
                have CW := Lib.hid (live_write w w5.drew _ g s H5.live sec (.slice A5 (z + 1) c5') W.heap.size w5.heap.size (cpy z b ++ [0]) (show SlIs w5.drew _ _ _ _ from s5) (Nat.le_refl _) (fun i h1 h2 => .inl (.inr ⟨h1, h2⟩)) SM.out)
                have H5' := Lib.hid H5
                have bw := s.write_bounds sec (cpy z b ++ [0])
                have BW := Lib.hid bw
                clear H5 bw s5 k5 HBX HKX HB HP hKbx
                go_upto_region 29 with fail
                refine wp_region_held_drew (S := fun w' => w'.cell? ⟨wr.heap.size, 1, none⟩ = some (.int .i64 sec) ∧ (convert 34 9 (.slice A5 (z + 1) c5')).run Try.prog w' = .ok (.string (strOf (cpy z b ++ [0]))) w') (by kernel_rfl) ?_ (fun hHeld => ?_)
                · exact SH.out _ (Only.refl _ _)
                refine takeH (i := 0) (d := 120) (v := ?_) (by kernel_rfl) (by kernel_rfl) (by kernel_rfl) rfl (fun _ _ _ h => h) (by rfl) ?_ hHeld ?_
                rotate_left
                · intro o ho w hSw
                  cases ho
                  go_simp
                  try with_reducible rfl
                simp only [Act.put, List.setIfInBounds_toArray, List.set_cons_zero, List.set_cons_succ]
                refine takeH (i := 1) (d := 121) (v := ?_) (by kernel_rfl) (by kernel_rfl) (by kernel_rfl) rfl (fun _ _ _ h => h) (by rfl) ?_ hHeld ?_
                rotate_left
                · intro o ho w hSw
                  cases ho
                  go_simp
                  try with_reducible rfl
                simp only [Act.put, List.setIfInBounds_toArray, List.set_cons_zero, List.set_cons_succ]
                refine takeH (i := 2) (d := 122) (v := ?_) (by kernel_rfl) (by kernel_rfl) (by kernel_rfl) rfl (fun _ _ _ h => h) (by rfl) ?_ hHeld ?_
                rotate_left
                · intro o ho w hSw
                  cases ho
                  go_simp
                  try with_reducible rfl
                simp only [Act.put, List.setIfInBounds_toArray, List.set_cons_zero, List.set_cons_succ]
                refine takeH (i := 3) (d := 123) (v := ?_) (by kernel_rfl) (by kernel_rfl) (by kernel_rfl) rfl (fun _ _ _ h => h) (by rfl) ?_ hHeld ?_
                rotate_left
                · intro o ho w hSw
                  cases ho
                  go_simp
                  try with_reducible rfl
                simp only [Act.put, List.setIfInBounds_toArray, List.set_cons_zero, List.set_cons_succ]
                refine takeH (i := 5) (d := 125) (v := ?_) (by kernel_rfl) (by kernel_rfl) (by kernel_rfl) rfl (fun _ _ _ h => h) (by rfl) ?_ hHeld ?_
                rotate_left
                · intro o ho w hSw
                  cases ho
                  go_simp
                  try with_reducible rfl
                simp only [Act.put, List.setIfInBounds_toArray, List.set_cons_zero, List.set_cons_succ]
                refine takeH (i := 6) (d := 126) (v := ?_) (by kernel_rfl) (by kernel_rfl) (by kernel_rfl) rfl (fun _ _ _ h => h) (by rfl) ?_ hHeld ?_
                rotate_left
                · intro o ho w hSw
                  cases ho
                  go_simp
                  try with_reducible rfl
                simp only [Act.put, List.setIfInBounds_toArray, List.set_cons_zero, List.set_cons_succ]
                refine takeH (i := 7) (d := 127) (v := ?_) (by kernel_rfl) (by kernel_rfl) (by kernel_rfl) rfl (fun _ _ _ h => h) (by rfl) ?_ hHeld ?_
                rotate_left
                · intro o ho w hSw
                  cases ho
                  go_simp
                  try with_reducible rfl
                simp only [Act.put, List.setIfInBounds_toArray, List.set_cons_zero, List.set_cons_succ]
                refine takeH (i := 8) (d := 128) (v := ?_) (by kernel_rfl) (by kernel_rfl) (by kernel_rfl) rfl (fun _ _ _ h => h) (by rfl) ?_ hHeld ?_
                rotate_left
                · intro o ho w hSw
                  cases ho
                  go_simp
                  try with_reducible rfl
                simp only [Act.put, List.setIfInBounds_toArray, List.set_cons_zero, List.set_cons_succ]
                refine takeH (i := 9) (d := 129) (v := ?_) (by kernel_rfl) (by kernel_rfl) (by kernel_rfl) rfl (fun _ _ _ h => h) (by rfl) ?_ hHeld ?_
                rotate_left
                · intro o ho w hSw
                  cases ho
                  go_simp
                  try with_reducible rfl
                simp only [Act.put, List.setIfInBounds_toArray, List.set_cons_zero, List.set_cons_succ]

                refine wpAnyH_ready (rs := [4]) (by kernel_rfl) (by simp) ?_
                refine AllReadyH.cons rfl (fun K hK => ?_) AllReadyH.nil
                go_simp
                refine CW.out.mono ?_
                rintro e w6 ⟨rfl, l6, o6⟩
                have H6 := Lib.hid (H5'.out.disk l6 o6)
                have CP := Lib.hid (pwrite_any _ gp sec (cpy z b ++ [0]) s w6 H6.out.pl SM.out)
                have O6 := Lib.hid o6
                clear l6 o6 CW H5'
                try go_wp2_with fail
                refine hK.out _ _ ?_ (fun hHeld => ?_)
                · exact SH.out _ (O6.out.mono (fun i _ h => .inl h))
                clear hK K
                refine wpAnyH_ready (rs := [10]) (by kernel_rfl) (by simp) ?_
                refine AllReadyH.cons rfl (fun K hK => ?_) AllReadyH.nil
                go_simp
                refine CP.out.mono ?_
                rintro e w7 ⟨rfl, PS⟩
                have H := H6.out.plate PS
                have O7 := Lib.hid PS.2
                clear PS H6 CP
                try go_wp2_with fail
                refine hK.out _ _ ?_ (fun hHeld => ?_)
                · exact SH.out _ ((O6.out.mono (T := fun i => (¬ (K1 i ∨ (W.heap.size ≤ i ∧ i < w5.drew.heap.size)) ∧ w.heap.size ≤ i) ∨ i = gp) (fun i _ h => .inl h)).trans O7.out (fun i _ h => .inr h))
                clear hK K O6 O7 SH
                refine takeH (i := 11) (d := 131) (v := ?_) (by kernel_rfl) (by kernel_rfl) (by kernel_rfl) rfl (fun _ _ _ h => h) (by rfl) ?_ hHeld ?_
                rotate_left
                · intro o ho w hSw
                  cases ho
                  go_simp
                  try with_reducible rfl
                simp only [Act.put, List.setIfInBounds_toArray, List.set_cons_zero, List.set_cons_succ]
                refine wpAnyH_done (by kernel_rfl) ?_ _
                clear SM
                generalize (s.write sec (cpy z b ++ [0])).1 = r1 at *
                generalize hs9 : (s.write sec (cpy z b ++ [0])).2 = s9 at *
                clear hs9

                have CS := Lib.hid H.same
                have HH := Lib.hid H
                have BD : Hid (s9.size = z ∧ s9.pend.length ≤ q + 1 ∧ s9.writes ≤ q + 1 ∧ s9.armed ≤ 9223372036854775807) := by obtain ⟨q1, q2, q3, q4⟩ := BW.out; have h1 := HI.out.size; have h2 := HI.out.pend; have h3 := HI.out.writes; have h4 := HI.out.armed; exact ⟨by omega, by omega, by omega, by omega⟩
                clear H HI
                go_wp2_with fail
                refine CS.out.mono ?_
                rintro e w9 ⟨rfl, b9⟩
                have R : Hid (PInv w g gp s9 z (q + 1) w9) := ⟨⟨_, HH.out.new ⟨b9.os, b9.tape, b9.output, b9.size, fun i hi _ => b9.block i hi⟩⟩, BD.out.1, BD.out.2.1, BD.out.2.2.1, BD.out.2.2.2⟩
                clear b9 CS HH BD
                go_wp2
                go_roundw
                case rel => exact ⟨q + 1, g, s9, by omega, rfl, by go_num, R⟩
                case measure => simp [RowKit.intOf]; omega
              | false =>
                have hKB := hKbx.out
                obtain ⟨w2, hmk, om, k2, s2⟩ := make_bytes z (by omega) W
                have b2 : Below w.heap.size w w2 := RW.out.trans (k2.below RW.out.size (fun _ _ h => h))
                have t3 : w2.cell? ⟨wr.heap.size, 3, none⟩ = some (.slice Ab b.length cb) := (k2.cell (p := ⟨wr.heap.size, 3, none⟩) hbxl (fun h => h)).trans x3
                obtain ⟨m, w3, hcp, o3, k3⟩ := copy_bytes om (HBX.out w2 b2)
                have k23 : Only (fun _ => False) W w3 := by
                  have q := k2.size
                  exact ⟨k3.os.trans k2.os, k3.tape.trans k2.tape, k3.output.trans k2.output, Nat.le_trans k2.size k3.size, fun i hi _ => (k3.block i (by omega) (by omega)).trans (k2.block i hi (fun h => h))⟩
                have t4 : w3.cell? ⟨wr.heap.size, 4, none⟩ = some (.bool false) := (k23.cell (p := ⟨wr.heap.size, 4, none⟩) hbxl (fun h => h)).trans x4

                have s5 : SlIs w3 W.heap.size w3.heap.size (.slice (some ⟨W.heap.size, 0, none⟩) z z) (cpy z b) := by
                  have := owns_SlIs (bs := cpy z b) (by rw [cpy_length]; exact o3)
                  exact this
                have k5 := k23
                clear om k2 k3 s2 b2 o3 k23

                have H5 := HP.out.more (k5.drew)
                have hs5 := k5.size
                have SH : Hid (∀ W', Only (fun i => (¬ (K1 i ∨ (W.heap.size ≤ i ∧ i < w3.drew.heap.size)) ∧ w.heap.size ≤ i) ∨ i = gp) w3.drew W' → W'.cell? ⟨wr.heap.size, 1, none⟩ = some (.int .i64 sec) ∧ (convert 34 9 (.slice (some ⟨W.heap.size, 0, none⟩) z z)).run Try.prog W' = .ok (.string (strOf (cpy z b))) W') := fun W' kk => by
                  have hz5 : w3.drew.heap.size = w3.heap.size := rfl
                  refine ⟨(kk.cell (p := ⟨wr.heap.size, 1, none⟩) (Nat.lt_of_lt_of_le hbxl hs5) (fun h => ?_)).trans ((k5.cell (p := ⟨wr.heap.size, 1, none⟩) hbxl (fun h => h)).trans x1), run_str _ _ _ _ _ (SlIs.only (a := w3.drew) s5 kk (Nat.le_refl _) (fun i h1 h2 h => ?_))⟩
                  · rcases h with h | h
                    · exact h.1 (.inl hKB)
                    · simp at h
                      omega
                  · rcases h with h | h
                    · exact h.1 (.inr ⟨h1, h2⟩)
                    · omega
                have CW := Lib.hid (live_write w w3.drew _ g s H5.live sec (.slice (some ⟨W.heap.size, 0, none⟩) z z) W.heap.size w3.heap.size (cpy z b) (show SlIs w3.drew _ _ _ _ from s5) (Nat.le_refl _) (fun i h1 h2 => .inl (.inr ⟨h1, h2⟩)) SM.out)
                have H5' := Lib.hid H5
                have bw := s.write_bounds sec (cpy z b)
                have BW := Lib.hid bw
                clear H5 bw s5 k5 HBX HKX HB HP hKbx
                go_upto_region 29 with fail
                refine wp_region_held_drew (S := fun w' => w'.cell? ⟨wr.heap.size, 1, none⟩ = some (.int .i64 sec) ∧ (convert 34 9 (.slice (some ⟨W.heap.size, 0, none⟩) z z)).run Try.prog w' = .ok (.string (strOf (cpy z b))) w') (by kernel_rfl) ?_ (fun hHeld => ?_)
                · exact SH.out _ (Only.refl _ _)
                refine takeH (i := 0) (d := 120) (v := ?_) (by kernel_rfl) (by kernel_rfl) (by kernel_rfl) rfl (fun _ _ _ h => h) (by rfl) ?_ hHeld ?_
                rotate_left
                · intro o ho w hSw
                  cases ho
                  go_simp
                  try with_reducible rfl
                simp only [Act.put, List.setIfInBounds_toArray, List.set_cons_zero, List.set_cons_succ]
                refine takeH (i := 1) (d := 121) (v := ?_) (by kernel_rfl) (by kernel_rfl) (by kernel_rfl) rfl (fun _ _ _ h => h) (by rfl) ?_ hHeld ?_
                rotate_left
                · intro o ho w hSw
                  cases ho
                  go_simp
                  try with_reducible rfl
                simp only [Act.put, List.setIfInBounds_toArray, List.set_cons_zero, List.set_cons_succ]
                refine takeH (i := 2) (d := 122) (v := ?_) (by kernel_rfl) (by kernel_rfl) (by kernel_rfl) rfl (fun _ _ _ h => h) (by rfl) ?_ hHeld ?_
                rotate_left
                · intro o ho w hSw
                  cases ho
                  go_simp
                  try with_reducible rfl
                simp only [Act.put, List.setIfInBounds_toArray, List.set_cons_zero, List.set_cons_succ]
                refine takeH (i := 3) (d := 123) (v := ?_) (by kernel_rfl) (by kernel_rfl) (by kernel_rfl) rfl (fun _ _ _ h => h) (by rfl) ?_ hHeld ?_
                rotate_left
                · intro o ho w hSw
                  cases ho
                  go_simp
                  try with_reducible rfl
                simp only [Act.put, List.setIfInBounds_toArray, List.set_cons_zero, List.set_cons_succ]
                refine takeH (i := 5) (d := 125) (v := ?_) (by kernel_rfl) (by kernel_rfl) (by kernel_rfl) rfl (fun _ _ _ h => h) (by rfl) ?_ hHeld ?_
                rotate_left
                · intro o ho w hSw
                  cases ho
                  go_simp
                  try with_reducible rfl
                simp only [Act.put, List.setIfInBounds_toArray, List.set_cons_zero, List.set_cons_succ]
                refine takeH (i := 6) (d := 126) (v := ?_) (by kernel_rfl) (by kernel_rfl) (by kernel_rfl) rfl (fun _ _ _ h => h) (by rfl) ?_ hHeld ?_
                rotate_left
                · intro o ho w hSw
                  cases ho
                  go_simp
                  try with_reducible rfl
                simp only [Act.put, List.setIfInBounds_toArray, List.set_cons_zero, List.set_cons_succ]
                refine takeH (i := 7) (d := 127) (v := ?_) (by kernel_rfl) (by kernel_rfl) (by kernel_rfl) rfl (fun _ _ _ h => h) (by rfl) ?_ hHeld ?_
                rotate_left
                · intro o ho w hSw
                  cases ho
                  go_simp
                  try with_reducible rfl
                simp only [Act.put, List.setIfInBounds_toArray, List.set_cons_zero, List.set_cons_succ]
                refine takeH (i := 8) (d := 128) (v := ?_) (by kernel_rfl) (by kernel_rfl) (by kernel_rfl) rfl (fun _ _ _ h => h) (by rfl) ?_ hHeld ?_
                rotate_left
                · intro o ho w hSw
                  cases ho
                  go_simp
                  try with_reducible rfl
                simp only [Act.put, List.setIfInBounds_toArray, List.set_cons_zero, List.set_cons_succ]
                refine takeH (i := 9) (d := 129) (v := ?_) (by kernel_rfl) (by kernel_rfl) (by kernel_rfl) rfl (fun _ _ _ h => h) (by rfl) ?_ hHeld ?_
                rotate_left
                · intro o ho w hSw
                  cases ho
                  go_simp
                  try with_reducible rfl
                simp only [Act.put, List.setIfInBounds_toArray, List.set_cons_zero, List.set_cons_succ]

                refine wpAnyH_ready (rs := [4]) (by kernel_rfl) (by simp) ?_
                refine AllReadyH.cons rfl (fun K hK => ?_) AllReadyH.nil
                go_simp
                refine CW.out.mono ?_
                rintro e w6 ⟨rfl, l6, o6⟩
                have H6 := Lib.hid (H5'.out.disk l6 o6)
                have CP := Lib.hid (pwrite_any _ gp sec (cpy z b) s w6 H6.out.pl SM.out)
                have O6 := Lib.hid o6
                clear l6 o6 CW H5'
                try go_wp2_with fail
                refine hK.out _ _ ?_ (fun hHeld => ?_)
                · exact SH.out _ (O6.out.mono (fun i _ h => .inl h))
                clear hK K
                refine wpAnyH_ready (rs := [10]) (by kernel_rfl) (by simp) ?_
                refine AllReadyH.cons rfl (fun K hK => ?_) AllReadyH.nil
                go_simp
                refine CP.out.mono ?_
                rintro e w7 ⟨rfl, PS⟩
                have H := H6.out.plate PS
                have O7 := Lib.hid PS.2
                clear PS H6 CP
                try go_wp2_with fail
                refine hK.out _ _ ?_ (fun hHeld => ?_)
                · exact SH.out _ ((O6.out.mono (T := fun i => (¬ (K1 i ∨ (W.heap.size ≤ i ∧ i < w3.drew.heap.size)) ∧ w.heap.size ≤ i) ∨ i = gp) (fun i _ h => .inl h)).trans O7.out (fun i _ h => .inr h))
                clear hK K O6 O7 SH
                refine takeH (i := 11) (d := 131) (v := ?_) (by kernel_rfl) (by kernel_rfl) (by kernel_rfl) rfl (fun _ _ _ h => h) (by rfl) ?_ hHeld ?_
                rotate_left
                · intro o ho w hSw
                  cases ho
                  go_simp
                  try with_reducible rfl
                simp only [Act.put, List.setIfInBounds_toArray, List.set_cons_zero, List.set_cons_succ]
                refine wpAnyH_done (by kernel_rfl) ?_ _
                clear SM
                generalize (s.write sec (cpy z b)).1 = r1 at *
                generalize hs9 : (s.write sec (cpy z b)).2 = s9 at *
                clear hs9

                have CS := Lib.hid H.same
                have HH := Lib.hid H
                have BD : Hid (s9.size = z ∧ s9.pend.length ≤ q + 1 ∧ s9.writes ≤ q + 1 ∧ s9.armed ≤ 9223372036854775807) := by obtain ⟨q1, q2, q3, q4⟩ := BW.out; have h1 := HI.out.size; have h2 := HI.out.pend; have h3 := HI.out.writes; have h4 := HI.out.armed; exact ⟨by omega, by omega, by omega, by omega⟩
                clear H HI
                go_wp2_with fail
                refine CS.out.mono ?_
                rintro e w9 ⟨rfl, b9⟩
                have R : Hid (PInv w g gp s9 z (q + 1) w9) := ⟨⟨_, HH.out.new ⟨b9.os, b9.tape, b9.output, b9.size, fun i hi _ => b9.block i hi⟩⟩, BD.out.1, BD.out.2.1, BD.out.2.2.1, BD.out.2.2.2⟩
                clear b9 CS HH BD
                go_wp2
                go_roundw
                case rel => exact ⟨q + 1, g, s9, by omega, rfl, by go_num, R⟩
                case measure => simp [RowKit.intOf]; omega
            · have f1 : (op == 1) = false := beq_eq_false_iff_ne.2 e1
              by_cases e2 : op = 2
              · subst e2
                cases ho : s.off with
                | true =>
                  have C2 := live_sync w W K1 g s HP.out.live SM.out

                  have hsy : s.sync = (22, s) := by rw [D.sync, if_pos ho]
                  rw [hsy] at C2
                  have HC := Lib.hid C2
                  clear C2 SM HKX HBX HB hKbx hsy
                  go_wp2_with fail
                  refine HC.out.mono ?_
                  rintro e w2 ⟨rfl, l2, o2⟩
                  have H := HP.out.disk l2 o2
                  obtain ⟨y4, _⟩ := H.pl.off
                  rw [ho] at y4
                  clear l2 o2 HC HP

                  have CS := Lib.hid H.same
                  have HH := Lib.hid H
                  have BD : Hid (s.size = z ∧ s.pend.length ≤ q + 1 ∧ s.writes ≤ q + 1 ∧ s.armed ≤ 9223372036854775807) := by have h1 := HI.out.size; have h2 := HI.out.pend; have h3 := HI.out.writes; have h4 := HI.out.armed; exact ⟨h1, by omega, by omega, by omega⟩
                  clear H HI
                  go_wp2_with fail
                  refine CS.out.mono ?_
                  rintro e w9 ⟨rfl, b9⟩
                  have R : Hid (PInv w g gp s z (q + 1) w9) := ⟨⟨_, HH.out.new ⟨b9.os, b9.tape, b9.output, b9.size, fun i hi _ => b9.block i hi⟩⟩, BD.out.1, BD.out.2.1, BD.out.2.2.1, BD.out.2.2.2⟩
                  clear b9 CS HH BD
                  go_wp2
                  go_roundw
                  case rel => exact ⟨q + 1, g, s, by omega, rfl, by go_num, R⟩
                  case measure => simp [RowKit.intOf]; omega
                | false =>
                  have C2 := live_sync w W K1 g s HP.out.live SM.out

                  have hsy : s.sync = (0, { s with kept := s.seen, pend := [] }) := by rw [D.sync, if_neg (by rw [ho]; decide)]
                  rw [hsy] at C2
                  have HC := Lib.hid C2
                  clear C2 SM HKX HBX HB hKbx hsy
                  go_wp2_with fail
                  refine HC.out.mono ?_
                  rintro e w2 ⟨rfl, l2, o2⟩
                  have H2 := HP.out.disk l2 o2
                  obtain ⟨gn, cn, wv, gk2, ck2, y4, y2, ⟨y1, z1⟩, ⟨y3, z3⟩, PS⟩ := H2.pl.sync ho
                  have H := H2.plate PS
                  obtain ⟨Aw, nw, cw, rfl⟩ : ∃ A n c, wv = .slice A n c := by
                    obtain ⟨_, _, _, _, wv', _, _, hp⟩ := H2.pl
                    obtain ⟨A, n, c, e⟩ := owns_form hp.wait
                    have e3 := hp.has.cell 3
                    rw [y3] at e3
                    simp at e3
                    exact ⟨A, n, c, by rw [e3]; exact e⟩
                  clear l2 o2 HC HP PS H2

                  have CS := Lib.hid H.same
                  have HH := Lib.hid H
                  have BD : Hid ({ s with kept := s.seen, pend := [] }.size = z ∧ { s with kept := s.seen, pend := [] }.pend.length ≤ q + 1 ∧ { s with kept := s.seen, pend := [] }.writes ≤ q + 1 ∧ { s with kept := s.seen, pend := [] }.armed ≤ 9223372036854775807) := by have h1 := HI.out.size; have h3 := HI.out.writes; have h4 := HI.out.armed; exact ⟨h1, by simp, by simp; omega, h4⟩
                  clear H HI
                  go_wp2_with fail
                  refine CS.out.mono ?_
                  rintro e w9 ⟨rfl, b9⟩
                  have R : Hid (PInv w g gp { s with kept := s.seen, pend := [] } z (q + 1) w9) := ⟨⟨_, HH.out.new ⟨b9.os, b9.tape, b9.output, b9.size, fun i hi _ => b9.block i hi⟩⟩, BD.out.1, BD.out.2.1, BD.out.2.2.1, BD.out.2.2.2⟩
                  clear b9 CS HH BD
                  go_wp2
                  go_roundw
                  case rel => exact ⟨q + 1, g, { s with kept := s.seen, pend := [] }, by omega, rfl, by go_num, R⟩
                  case measure => simp [RowKit.intOf]; omega
              · have f2 : (op == 2) = false := beq_eq_false_iff_ne.2 e2
                by_cases e3 : op = 3
                · subst e3
                  by_cases hng : an < 1
                  · have hKB := hKbx.out
                    have C2 := Lib.hid (live_arm w W K1 g s HP.out.live an keep (.slice Ak keep.length ck) _ (HKX.out W RW.out) (by omega))
                    clear SM HBX hKbx
                    go_wp2_with fail
                    refine C2.out.mono ?_
                    rintro e w2 ⟨rfl, l2, o2⟩
                    have H2 := HP.out.disk l2 o2
                    have hb2 := HB.out.only o2 (fun e => e.1 hKB)
                    have t2 := hb2.cell 2
                    have t5 := hb2.cell 5
                    simp at t2 t5
                    obtain ⟨⟨a0, hv0, y5, z5, y6, z6⟩, PA⟩ := H2.pl.arm2 an keep (.slice Ak keep.length ck) (.int .i64 an) ((HKX.out w2 l2.low).mono (fun i _ hi => .inr hi))
                    obtain ⟨Ah, nh, ch, rfl⟩ : ∃ A n c, hv0 = .slice A n c := by
                      obtain ⟨_, _, _, _, _, hv', kp, hp⟩ := H2.pl
                      obtain ⟨A, c, e, _⟩ := hp.keep
                      have e3 := hp.has.cell 6
                      rw [y6] at e3
                      simp at e3
                      exact ⟨A, _, c, by rw [e3]; exact e⟩
                    have hne : wr.heap.size ≠ gp := by omega

                    have H := H2.plate (PA 1 (by rw [if_pos (by omega)]; rfl))
                    have dn : decide (an < 1) = true := decide_eq_true (by omega)
                    clear l2 o2 C2 HP PA H2 hb2 HB HKX

                    have CS := Lib.hid H.same
                    have HH := Lib.hid H
                    have BD : Hid ((s.arm an keep).size = z ∧ (s.arm an keep).pend.length ≤ q + 1 ∧ (s.arm an keep).writes ≤ q + 1 ∧ (s.arm an keep).armed ≤ 9223372036854775807) := by have h1 := HI.out.size; have h2 := HI.out.pend; have h3 := HI.out.writes; exact ⟨h1, by simp only [D.arm]; omega, by simp only [D.arm]; omega, by simp only [D.arm]; split <;> omega⟩
                    clear H HI
                    go_wp2_with fail
                    refine CS.out.mono ?_
                    rintro e w9 ⟨rfl, b9⟩
                    have R : Hid (PInv w g gp (s.arm an keep) z (q + 1) w9) := ⟨⟨_, HH.out.new ⟨b9.os, b9.tape, b9.output, b9.size, fun i hi _ => b9.block i hi⟩⟩, BD.out.1, BD.out.2.1, BD.out.2.2.1, BD.out.2.2.2⟩
                    clear b9 CS HH BD
                    go_wp2
                    go_roundw
                    case rel => exact ⟨q + 1, g, (s.arm an keep), by omega, rfl, by go_num, R⟩
                    case measure => simp [RowKit.intOf]; omega
                  · have hKB := hKbx.out
                    have C2 := Lib.hid (live_arm w W K1 g s HP.out.live an keep (.slice Ak keep.length ck) _ (HKX.out W RW.out) (by omega))
                    clear SM HBX hKbx
                    go_wp2_with fail
                    refine C2.out.mono ?_
                    rintro e w2 ⟨rfl, l2, o2⟩
                    have H2 := HP.out.disk l2 o2
                    have hb2 := HB.out.only o2 (fun e => e.1 hKB)
                    have t2 := hb2.cell 2
                    have t5 := hb2.cell 5
                    simp at t2 t5
                    obtain ⟨⟨a0, hv0, y5, z5, y6, z6⟩, PA⟩ := H2.pl.arm an keep (.slice Ak keep.length ck) ((HKX.out w2 l2.low).mono (fun i _ hi => .inr hi))
                    obtain ⟨Ah, nh, ch, rfl⟩ : ∃ A n c, hv0 = .slice A n c := by
                      obtain ⟨_, _, _, _, _, hv', kp, hp⟩ := H2.pl
                      obtain ⟨A, c, e, _⟩ := hp.keep
                      have e3 := hp.has.cell 6
                      rw [y6] at e3
                      simp at e3
                      exact ⟨A, _, c, by rw [e3]; exact e⟩
                    have hne : wr.heap.size ≠ gp := by omega

                    have H := H2.plate (PA an (by rw [if_neg (by omega)]; omega))
                    have dn : decide (an < 1) = false := decide_eq_false (by omega)
                    clear l2 o2 C2 HP PA H2 hb2 HB HKX

                    have CS := Lib.hid H.same
                    have HH := Lib.hid H
                    have BD : Hid ((s.arm an keep).size = z ∧ (s.arm an keep).pend.length ≤ q + 1 ∧ (s.arm an keep).writes ≤ q + 1 ∧ (s.arm an keep).armed ≤ 9223372036854775807) := by have h1 := HI.out.size; have h2 := HI.out.pend; have h3 := HI.out.writes; exact ⟨h1, by simp only [D.arm]; omega, by simp only [D.arm]; omega, by simp only [D.arm]; split <;> omega⟩
                    clear H HI
                    go_wp2_with fail
                    refine CS.out.mono ?_
                    rintro e w9 ⟨rfl, b9⟩
                    have R : Hid (PInv w g gp (s.arm an keep) z (q + 1) w9) := ⟨⟨_, HH.out.new ⟨b9.os, b9.tape, b9.output, b9.size, fun i hi _ => b9.block i hi⟩⟩, BD.out.1, BD.out.2.1, BD.out.2.2.1, BD.out.2.2.2⟩
                    clear b9 CS HH BD
                    go_wp2
                    go_roundw
                    case rel => exact ⟨q + 1, g, (s.arm an keep), by omega, rfl, by go_num, R⟩
                    case measure => simp [RowKit.intOf]; omega
                · have f3 : (op == 3) = false := beq_eq_false_iff_ne.2 e3
                  by_cases e4 : op = 4
                  · subst e4
                    have hKB := hKbx.out
                    have C2 := Lib.hid (live_cut w W K1 g s HP.out.live keep (.slice Ak keep.length ck) _ (HKX.out W RW.out) (fun i hi => .inr hi) SM.out)
                    clear HBX hKbx
                    go_wp2_with fail
                    refine C2.out.mono ?_
                    rintro e w2 ⟨rfl, l2, o2⟩
                    have H2 := HP.out.disk l2 o2
                    have t5 := (HB.out.only o2 (fun e => e.1 hKB)).cell 5
                    simp at t5
                    have C3 := Lib.hid (power_any _ _ gp s keep (.slice Ak keep.length ck) w2 H2.pl (HKX.out w2 l2.low) SM.out.pend)
                    have HH2 := Lib.hid H2
                    clear l2 o2 C2 HP H2 HB HKX SM
                    go_wp2_with fail
                    refine C3.out.mono ?_
                    rintro e w3 ⟨rfl, PS⟩
                    have H := HH2.out.plate PS
                    clear PS HH2 C3 t5

                    have CS := Lib.hid H.same
                    have HH := Lib.hid H
                    have BD : Hid ((s.cut keep).size = z ∧ (s.cut keep).pend.length ≤ q + 1 ∧ (s.cut keep).writes ≤ q + 1 ∧ (s.cut keep).armed ≤ 9223372036854775807) := by have h1 := HI.out.size; have h3 := HI.out.writes; exact ⟨h1, by simp [D.cut], by simp only [D.cut]; omega, by simp [D.cut]⟩
                    clear H HI
                    go_wp2_with fail
                    refine CS.out.mono ?_
                    rintro e w9 ⟨rfl, b9⟩
                    have R : Hid (PInv w g gp (s.cut keep) z (q + 1) w9) := ⟨⟨_, HH.out.new ⟨b9.os, b9.tape, b9.output, b9.size, fun i hi _ => b9.block i hi⟩⟩, BD.out.1, BD.out.2.1, BD.out.2.2.1, BD.out.2.2.2⟩
                    clear b9 CS HH BD
                    go_wp2
                    go_roundw
                    case rel => exact ⟨q + 1, g, (s.cut keep), by omega, rfl, by go_num, R⟩
                    case measure => simp [RowKit.intOf]; omega
                  · have f4 : (op == 4) = false := beq_eq_false_iff_ne.2 e4
                    by_cases e5 : op = 5
                    · subst e5
                      have C2 := Lib.hid (live_on w W K1 g s HP.out.live)
                      clear HBX hKbx HB HKX SM
                      go_wp2_with fail
                      refine C2.out.mono ?_
                      rintro e w2 ⟨rfl, l2, o2⟩
                      have H2 := HP.out.disk l2 o2
                      obtain ⟨y4, z4⟩ := H2.pl.off
                      have H := H2.plate H2.pl.on
                      clear l2 o2 C2 HP H2

                      have CS := Lib.hid H.same
                      have HH := Lib.hid H
                      have BD : Hid ({ s with off := false }.size = z ∧ { s with off := false }.pend.length ≤ q + 1 ∧ { s with off := false }.writes ≤ q + 1 ∧ { s with off := false }.armed ≤ 9223372036854775807) := by have h1 := HI.out.size; have h2 := HI.out.pend; have h3 := HI.out.writes; have h4 := HI.out.armed; exact ⟨h1, by simp only; omega, by simp only; omega, by simp only; omega⟩
                      clear H HI
                      go_wp2_with fail
                      refine CS.out.mono ?_
                      rintro e w9 ⟨rfl, b9⟩
                      have R : Hid (PInv w g gp { s with off := false } z (q + 1) w9) := ⟨⟨_, HH.out.new ⟨b9.os, b9.tape, b9.output, b9.size, fun i hi _ => b9.block i hi⟩⟩, BD.out.1, BD.out.2.1, BD.out.2.2.1, BD.out.2.2.2⟩
                      clear b9 CS HH BD
                      go_wp2
                      go_roundw
                      case rel => exact ⟨q + 1, g, { s with off := false }, by omega, rfl, by go_num, R⟩
                      case measure => simp [RowKit.intOf]; omega
                    · have f5 : (op == 5) = false := beq_eq_false_iff_ne.2 e5
                      by_cases e6 : op = 6
                      · subst e6
                        have C2 := Lib.hid (HP.out.twin SM.out)
                        clear HBX hKbx HB HKX SM HP
                        go_wp2_with fail
                        refine C2.out.mono ?_
                        rintro e w2 ⟨rfl, C3⟩
                        have HC3 := Lib.hid C3
                        clear C3 C2
                        go_wp2_with fail
                        refine HC3.out.mono ?_
                        rintro e w3 ⟨rfl, H⟩
                        clear HC3

                        have CS := Lib.hid H.same
                        have HH := Lib.hid H
                        have BD : Hid (s.size = z ∧ s.pend.length ≤ q + 1 ∧ s.writes ≤ q + 1 ∧ s.armed ≤ 9223372036854775807) := by have h1 := HI.out.size; have h2 := HI.out.pend; have h3 := HI.out.writes; have h4 := HI.out.armed; exact ⟨h1, by omega, by omega, by omega⟩
                        clear H HI
                        go_wp2_with fail
                        refine CS.out.mono ?_
                        rintro e w9 ⟨rfl, b9⟩
                        have R : Hid (PInv w W.heap.size gp s z (q + 1) w9) := ⟨⟨_, HH.out.new ⟨b9.os, b9.tape, b9.output, b9.size, fun i hi _ => b9.block i hi⟩⟩, BD.out.1, BD.out.2.1, BD.out.2.2.1, BD.out.2.2.2⟩
                        clear b9 CS HH BD
                        go_wp2
                        go_roundw
                        case rel => exact ⟨q + 1, W.heap.size, s, by omega, rfl, by go_num, R⟩
                        case measure => simp [RowKit.intOf]; omega
                      · have f6 : (op == 6) = false := beq_eq_false_iff_ne.2 e6
                        clear SM HKX HBX HB hKbx
                        have H := HP.out
                        clear HP

                        have CS := Lib.hid H.same
                        have HH := Lib.hid H
                        have BD : Hid (s.size = z ∧ s.pend.length ≤ q + 1 ∧ s.writes ≤ q + 1 ∧ s.armed ≤ 9223372036854775807) := by have h1 := HI.out.size; have h2 := HI.out.pend; have h3 := HI.out.writes; have h4 := HI.out.armed; exact ⟨h1, by omega, by omega, by omega⟩
                        clear H HI
                        go_wp2_with fail
                        refine CS.out.mono ?_
                        rintro e w9 ⟨rfl, b9⟩
                        have R : Hid (PInv w g gp s z (q + 1) w9) := ⟨⟨_, HH.out.new ⟨b9.os, b9.tape, b9.output, b9.size, fun i hi _ => b9.block i hi⟩⟩, BD.out.1, BD.out.2.1, BD.out.2.2.1, BD.out.2.2.2⟩
                        clear b9 CS HH BD
                        go_wp2
                        go_roundw
                        case rel => exact ⟨q + 1, g, s, by omega, rfl, by go_num, R⟩
                        case measure => simp [RowKit.intOf]; omega
        · have hqe : q = xs.length := by omega
          subst hqe
          obtain ⟨K, hK⟩ := hrel.out.both
          have R := Lib.hid hK.live.low
          have dq : decide (xs.length < xs.length) = false := decide_eq_false (by omega)
          clear hK hrel
          go_wp2
          go_ret
          exact ⟨rfl, R.out⟩
end Go.Proofs.Ytddllgbficjaoaa
